/-
  Several texts in one: what the functions of the program and of the document's answer do.
-/
import Derived.Test.YtpfnjgkfombmpaaDoorYWl

/-
  'tree.Depth': 'tree.walk' under its closure (made by mk_ywd.py).
-/
namespace Go.Proofs.YtpfnjgkfombmpaaDoor
open Go.RowKit
set_option linter.unusedVariables false

/-! ### tree.counts, tree.Depth -/
def countsB (k : Int) : Bool := k != 2 && k != 3
theorem counts_any (k : Int) (g o : Nat) (w : World) (c0 : w.cell? ⟨g, o, none⟩ = some (.int .i64 k)) :
    Calls Tryd.prog 103 #[.pointer (some ⟨g, o, none⟩)] w fun e w' => e = .returned (.bool (countsB k)) ∧ w' = w := by
  unfold countsB
  by_cases h2 : k = 2
  · subst h2
    go_enter Tryd.func103, Tryd.ntmps103
    go_wp2
    go_ret
    exact ⟨rfl, rfl⟩
  go_enter Tryd.func103, Tryd.ntmps103
  go_wp2
  go_ret
  exact ⟨rfl, rfl⟩
def depStep (m : Nat) (it : Item) : Nat × Bool := (if countsB it.k = true then max m it.d else m, true)
def DepAt (G m : Nat) (w : World) : Prop := Blk w G #[.int .i64 (m : Int)] 3
end Go.Proofs.YtpfnjgkfombmpaaDoor

/-
  'tree.tooGreat': 'tree.walk' under its closure (made by mk_ywd.py).
-/
namespace Go.Proofs.YtpfnjgkfombmpaaDoor
open Go.RowKit
set_option linter.unusedVariables false

set_option maxHeartbeats 8000000 in
set_option maxRecDepth 100000 in
theorem walk_great {σ : Type} (stp : σ → Item → σ × Bool) (Inv : σ → World → Prop) (G G2 : Nat) (w0 : World) (B0 : Nat)
    (hstab : ∀ s w w', Inv s w → (∀ b, b < B0 → w'.heap[b]? = w.heap[b]?) → Inv s w')
    (C : ∀ (s : σ) (k sp : Int) (n : ByteArray) (ats : List (ByteArray × ByteArray)) (tx : ByteArray) (kids rest : Forest) (g o d : Nat) (w : World), Inv s w → Below w0.heap.size w0 w → B0 ≤ w.heap.size → Lies (.cons k sp n ats tx kids rest) g o w0 → d ≤ 2000000 →
      Calls Tryd.prog 102 #[.pointer (some ⟨g, o, none⟩), .int .i64 (d : Int), .pointer (some ⟨G, 0, none⟩), .pointer (some ⟨G2, 0, none⟩)] w fun e w' => e = .returned (.bool (stp s ⟨k, sp, n, ats, tx, kids, d⟩).2) ∧ Inv (stp s ⟨k, sp, n, ats, tx, kids, d⟩).1 w' ∧ Below w0.heap.size w0 w' ∧ Since B0 w w')
    (f : Forest) (q : Option Addr) (cap : Nat) (w : World) (hf : Fo q f w0) (hcap : f.len ≤ cap) (hc : f.count ≤ 1000000) (s : σ) (hI : Inv s w) (hb : Below w0.heap.size w0 w) (hB : w0.heap.size ≤ B0) (hB2 : B0 ≤ w.heap.size) :
    Calls Tryd.prog 34 #[.slice q f.len cap, .func (.func 102) #[] #[.pointer (some ⟨G, 0, none⟩), .pointer (some ⟨G2, 0, none⟩)]] w fun e w' => e = .returned (.tuple #[]) ∧ Inv (tell stp s (items f 1)) w' ∧ Below w0.heap.size w0 w' := by
  have HC := hide C
  have HST := hide hstab
  obtain ⟨i0, hi0, hi1, hi2, hi3⟩ := info_parts infoNodes0
  have hrow0 : (w.alloc (Obj.cells #[.slice q f.len cap] 22)).ownsRow w.heap.size 22 1 (.slice (some ⟨w.heap.size, 0, none⟩) 1 1) 1 [.slice q f.len cap] :=
    ⟨rfl, Or.inr ⟨w.heap.size, 1, #[.slice q f.len cap], rfl, Nat.le_refl _, Blk.new w _ _, Nat.le_refl _, by unfold maxLen; omega, rfl, rfl⟩⟩
  have HAT : Hid (WalkAt stp Inv w0 w.heap.size (tell stp s (items f 1)) (2 * f.count + 1) (.slice (some ⟨w.heap.size, 0, none⟩) 1 1) (w.alloc (Obj.cells #[.slice q f.len cap] 22))) := hide ⟨[(f, q, cap)], s, by simpa [cnt] using hc, by simp [cnt]; omega, by simp [cnt], fun e he => by rw [List.mem_singleton.1 he]; exact ⟨hf, hcap⟩, hrow0, by simp [todo], hstab s w _ hI (fun b hb => (Below.refl w.heap.size w |>.alloc (Nat.le_refl _) _).block b (by omega)), hb.alloc hb.size _, by simp⟩
  clear C hstab hrow0 hI hf
  go_enter Tryd.func34, Tryd.ntmps34
  go_wp2
  go_loopg [4] (2 * f.count + 1) (fun gk left wr => WalkAt stp Inv w0 w.heap.size (tell stp s (items f 1)) gk left wr)
  case atStart => exact unhide HAT
  case round =>
    clear HAT
    obtain ⟨st, s', hc1, hc2, hgk, hok, hrow, htl, hinv, hbw, hsz⟩ := hrel
    match st, hc1, hc2, hgk, hok, hrow, htl with
    | [], hc1, hc2, hgk, hok, hrow, htl =>
      obtain ⟨a4, cap4, rfl⟩ := slice_n hrow
      have HF : Hid (s' = tell stp s (items f 1)) := hide htl
      have HX := hide (And.intro hinv hbw)
      simp only [List.length_nil]
      clear htl hok hrow hinv hbw
      go_wp2
      refine bodyPost_end (v := .tuple #[]) (results_none Tryd.results34 _ _ _) rfl ?_
      exact ⟨rfl, by rw [← unhide HF]; exact (unhide HX).1, (unhide HX).2⟩
    | (fo, qe, ce) :: st, hc1, hc2, hgk, hok, hrow, htl =>
      rw [rowOf_cons] at hrow
      obtain ⟨b, capb, rfl, hbb, hcb, c0, cf0, hblt, hpop, hset⟩ := row_last hrow (rowOf_len st)
      have hoke := hok (fo, qe, ce) (List.mem_cons_self ..)
      have HOK := hide (show StackOk w0 st from fun e he => hok e (List.mem_cons_of_mem _ he))
      have hln : (st.length : Int) + 1 ≤ 1000001 := by simp at hc2; omega
      have hcbi : (st.length : Int) + 1 ≤ (capb : Int) := by omega
      cases fo with
      | nil =>
        have HT : Hid (tell stp s' (todo (st.map (·.1))) = tell stp s (items f 1)) := hide htl
        have HX := hide (And.intro hinv (And.intro hbw (And.intro hsz hpop)))
        have hg' : 2 * cnt st + st.length < gk := by simp [cnt, Forest.count] at hgk; omega
        have hc1' : cnt st ≤ 1000000 := by simp [cnt, Forest.count] at hc1; omega
        have hc2' : st.length + cnt st ≤ 1000001 := by simp [cnt, Forest.count] at hc2; omega
        simp only [Entry.val, Forest.len] at c0
        clear htl hok hrow hinv hbw hset hpop hoke hgk hc1 hc2
        go_wp2
        go_roundg (2 * cnt st + st.length)
        case measure => exact hg'
        case rel => exact ⟨st, s', hc1', hc2', rfl, unhide HOK, (unhide HX).2.2.2, unhide HT, (unhide HX).1, (unhide HX).2.1, (unhide HX).2.2.1⟩
      | cons k sp n ats tx kids rest =>
        obtain ⟨hfo, hce⟩ := hoke
        rcases hfo with h | ⟨g, o, hq, hl⟩
        · cases h
        have hq' : qe = some ⟨g, o, none⟩ := hq
        subst hq'
        have hlr := hl.2
        have hll := hl
        obtain ⟨⟨_, _, _, _, _, ⟨qk, ck, l5, hck, hfk⟩⟩, _⟩ := hl
        have hce' : rest.len + 1 ≤ ce := hce
        have hcei : (rest.len : Int) + 1 ≤ (ce : Int) := by omega
        have hrl : (rest.len : Int) + 1 ≤ 1000001 := by
          have := rest.len_count
          simp [cnt, Forest.count] at hc1
          omega
        simp only [Entry.val, Forest.len] at c0
        have HP := hide hset
        have CC := hide (fun w h1 h2 h3 => unhide HC s' k sp n ats tx kids rest g o (st.length + 1) w h1 h2 h3 hll (by omega))
        have e1 : ((rest.len : Int) + 1 == 0) = false := beq_eq_false_iff_ne.2 (by omega)
        have HX := hide (And.intro hinv (And.intro hbw (And.intro hsz (And.intro hc1 (And.intro hc2 (And.intro hgk htl))))))
        have HKD := hide (And.intro hll (And.intro hlr (And.intro l5 (And.intro hck hfk))))
        clear hok hrow hpop hce hset hinv hbw hsz hc1 hc2 hgk htl hll hlr l5 hck hfk hce'
        have HTO : Hid (tell stp s' (todo ((Forest.cons k sp n ats tx kids rest) :: st.map (·.1))) = tell stp s' (⟨k, sp, n, ats, tx, kids, st.length + 1⟩ :: (items kids (st.length + 1 + 1) ++ (items rest (st.length + 1) ++ todo (st.map (·.1)))))) := hide (by show tell stp s' (items (Forest.cons k sp n ats tx kids rest) ((st.map (·.1)).length + 1) ++ todo (st.map (·.1))) = _; rw [List.length_map]; show tell stp s' (_ :: (items kids (st.length + 1 + 1) ++ items rest (st.length + 1)) ++ todo (st.map (·.1))) = _; rw [List.cons_append, List.append_assoc])
        have HRN : Hid (rest.len = rest.len) := hide rfl
        obtain ⟨rl, hrlq⟩ : ∃ rl, rest.len = rl := ⟨_, rfl⟩
        obtain ⟨sl, hslq⟩ : ∃ sl, st.length = sl := ⟨_, rfl⟩
        rw [hrlq] at c0 hcei hrl e1
        rw [hslq] at c0 cf0 hln hcbi HP hcb CC
        rw [hslq]
        have HQ := hide (And.intro hrlq hslq)
        clear hrlq hslq HRN
        have j1 : (1 : Int) ≤ (rl : Int) + 1 := by omega
        have j2 : (0 : Int) < (rl : Int) + 1 := by omega
        go_upto_region 7 with fail
        generalize hqr : (if ce = 1 then some (⟨g, o, none⟩ : Addr) else some ⟨g, o + 6, none⟩) = qr at *
        have HQR : Hid (Fo qr rest w0) := hide (by
          by_cases h1 : ce = 1
          · left
            have hr0 : rest.len = 0 := by have := (unhide HQ).1; omega
            cases rest with
            | nil => rfl
            | cons _ _ _ _ _ _ r => simp [Forest.len] at hr0
          · right; rw [if_neg h1] at hqr; exact ⟨g, o + 6, hqr.symm, (unhide HKD).2.1⟩)
        clear hqr
        have hb0 : w0.heap.size ≤ b := by omega
        have hX1 : Inv s' (wr.setCell ⟨b, sl, none⟩ (.slice qr rl (ce - 1))) := unhide HST s' wr _ (unhide HX).1 (fun b' hb' => Below.heap_setCell wr ⟨b, sl, none⟩ _ b' (by show b' ≠ b; omega))
        have hX2 := (unhide HX).2.1.setCell (p := ⟨b, sl, none⟩) hb0 (.slice qr rl (ce - 1))
        have hX3 : B0 ≤ (wr.setCell ⟨b, sl, none⟩ (.slice qr rl (ce - 1))).heap.size := by have := (unhide HX).2.2.1; simp; omega
        have HR := hide (unhide HP (.slice qr rl (ce - 1)))
        have HZ : Hid ((wr.setCell ⟨b, sl, none⟩ (.slice qr rl (ce - 1))).heap.size = wr.heap.size) := hide (by simp)
        go_wp2_with fail
        refine (unhide CC _ hX1 hX2 hX3).mono ?_
        rintro e3 W3 ⟨rfl, hI3, hb3, hs3⟩
        clear hX1 hX2 hX3 CC
        obtain ⟨s2, bb, hst⟩ : ∃ s2 bb, stp s' ⟨k, sp, n, ats, tx, kids, sl + 1⟩ = (s2, bb) := ⟨_, _, rfl⟩
        rw [hst] at hI3 ⊢
        cases bb with
        | false =>
          have HFN : Hid (s2 = tell stp s (items f 1)) := hide (by
            have h1 := (unhide HX).2.2.2.2.2.2
            rw [show (((Forest.cons k sp n ats tx kids rest, (some ⟨g, o, none⟩ : Option Addr), ce) :: st).map (·.1)) = Forest.cons k sp n ats tx kids rest :: st.map (·.1) from rfl, unhide HTO, (unhide HQ).2, tell, hst] at h1
            simpa using h1)
          have HY := hide (And.intro hI3 hb3)
          clear hI3 hb3 hs3 hst
          go_wp2
          refine bodyPost_ret (v := .tuple #[]) (results_none Tryd.results34 _ _ _) rfl ?_
          exact ⟨rfl, by rw [← unhide HFN]; exact (unhide HY).1, (unhide HY).2⟩
        | true =>
          have HFN : Hid (tell stp s2 (items kids (sl + 1 + 1) ++ (items rest (sl + 1) ++ todo (st.map (·.1)))) = tell stp s (items f 1)) := hide (by
            have h1 := (unhide HX).2.2.2.2.2.2
            rw [show (((Forest.cons k sp n ats tx kids rest, (some ⟨g, o, none⟩ : Option Addr), ce) :: st).map (·.1)) = Forest.cons k sp n ats tx kids rest :: st.map (·.1) from rfl, unhide HTO, (unhide HQ).2, tell, hst] at h1
            simpa using h1)
          obtain ⟨hll, hlr, l5, hck, hfk⟩ := unhide HKD
          have k5 : W3.cell? ⟨g, o + 5, none⟩ = some (.slice qk kids.len ck) := cell_later hb3 l5
          have hrow3 := ownsRow_since (unhide HR) hs3 (by omega)
          have hsz3 : w.heap.size ≤ W3.heap.size := by have h1 := hs3.1; rw [unhide HZ] at h1; have := (unhide HX).2.2.1; omega
          have hlb : ∀ j, some j = (Value.slice (some ⟨b, 0, none⟩) (sl + 1) capb).ownBlock → w.heap.size ≤ j := fun j hj => (hrow3.lt j hj.symm).1
          have HY := hide (And.intro hI3 (And.intro hb3 (And.intro hfk hck)))
          clear hI3 hb3 hs3 hst hll hlr l5 hck hfk
          go_wp2_with (at_builtin; refine wpList_append_own _ rfl _ _ 89 rfl w.heap.size 22 i0 (.slice none 0 0) 1 24 Tryd.underlying89 hi0 hi1 hi2 hi3 rfl (by decide) _ _ _ rfl (hrow3.alloc _) ⟨W3.heap.size, 0, none⟩ 1 1 [.slice qk kids.len ck] rfl rfl ?c1 ?c2 ?c3 ?c4 ?c5 ?_)
          case c1 => intro j u hj; exact lit1 hj
          case c2 => intro u hu; simp at hu; rw [hu]; rfl
          case c3 => unfold maxLen; omega
          case c4 => omega
          case c5 => simp; omega
          intro v' w5 hrow5 hgrow5 _
          obtain ⟨a5, c5, hv5⟩ := slice_n hrow5
          subst hv5
          have hbL := (unhide HY).2.1.alloc (unhide HY).2.1.size (Obj.cells #[.slice qk kids.len ck] 22)
          have hb5 := hbL.grown hgrow5 hbL.size (fun j hj => by have := hlb _ hj.symm; omega)
          have hI5 : Inv s2 w5 := unhide HST s2 W3 w5 (unhide HY).1 (fun b' hb' => by
            have h1 : (W3.alloc (Obj.cells #[.slice qk kids.len ck] 22)).heap[b']? = W3.heap[b']? := ((Below.refl W3.heap.size W3).alloc (Nat.le_refl _) _).block b' (by omega)
            rw [← h1]
            exact hgrow5.block b' (by simp; omega) (fun e => by have := hlb _ e; omega))
          have hs5 : w.heap.size ≤ w5.heap.size := by
            have := hgrow5.size
            simp at this
            omega
          have HZ5 := hide (And.intro hrow5 (And.intro hb5 (And.intro hI5 hs5)))
          clear hrow5 hgrow5 hbL hb5 hI5 hs5 hrow3 hlb
          go_wp2
          obtain ⟨hrow5, hb5, hI5, hs5⟩ := unhide HZ5
          obtain ⟨_, _, _, hc1, hc2, hgk, _⟩ := unhide HX
          obtain ⟨hrlq, hslq⟩ := unhide HQ
          simp only [cnt, Forest.count, List.length_cons] at hc1 hc2 hgk
          go_roundg (2 * (kids.count + (rest.count + cnt st)) + (st.length + 1 + 1))
          case measure => omega
          case rel =>
            refine ⟨(kids, qk, ck) :: (rest, qr, ce - 1) :: st, s2, ?_, ?_, rfl, ?_, ?_, ?_, hI5, hb5, hs5⟩
            · show kids.count + (rest.count + cnt st) ≤ 1000000; omega
            · show st.length + 1 + 1 + (kids.count + (rest.count + cnt st)) ≤ 1000001; omega
            · intro e he
              rcases List.mem_cons.1 he with rfl | he
              · exact ⟨(unhide HY).2.2.1, (unhide HY).2.2.2⟩
              rcases List.mem_cons.1 he with rfl | he
              · exact ⟨unhide HQR, by show rest.len ≤ ce - 1; omega⟩
              · exact unhide HOK e he
            · rw [rowOf_cons, rowOf_cons, List.append_assoc, List.length_cons, List.length_cons, hslq]
              show w5.ownsRow _ _ _ _ _ (rowOf st ++ ([.slice qr rest.len (ce - 1)] ++ [.slice qk kids.len ck]))
              rw [hrlq]; exact hrow5
            · rw [← unhide HFN]
              show tell stp s2 (items kids ((rest :: st.map (·.1)).length + 1) ++ (items rest ((st.map (·.1)).length + 1) ++ todo (st.map (·.1)))) = _
              rw [List.length_cons, List.length_map, hslq]


/-! ### tree.tooGreat -/
def grB (x : Int) (k : Int) (d : Nat) : Bool := decide (300 < wrap64 (x + 1)) || (countsB k && decide (40 < (d : Int)))
def grStep (s : Int × Bool) (it : Item) : (Int × Bool) × Bool := ((wrap64 (s.1 + 1), grB s.1 it.k it.d), !(grB s.1 it.k it.d))
def GrAt (G : Nat) (s : Int × Bool) (w : World) : Prop := Blk w G #[.int .i64 s.1] 3 ∧ Blk w (G + 1) #[.bool s.2] 4
set_option maxHeartbeats 2000000 in
theorem great1_any (x : Int) (b : Bool) (d G g o : Nat) (k : Int) (w : World) (hG : GrAt G (x, b) w) (c0 : w.cell? ⟨g, o, none⟩ = some (.int .i64 k)) (hg : g < G) :
    Calls Tryd.prog 102 #[.pointer (some ⟨g, o, none⟩), .int .i64 (d : Int), .pointer (some ⟨G, 0, none⟩), .pointer (some ⟨G + 1, 0, none⟩)] w fun e w' => e = .returned (.bool (!(grB x k d))) ∧ w' = (w.setCell ⟨G, 0, none⟩ (.int .i64 (wrap64 (x + 1)))).setCell ⟨G + 1, 0, none⟩ (.bool (grB x k d)) := by
  have hG1 : Blk (w.setCell ⟨G, 0, none⟩ (.int .i64 (wrap64 (x + 1)))) (G + 1) #[.bool b] 4 := hG.2.away (by omega) _
  have hG2 : Blk (w.setCell ⟨G, 0, none⟩ (.int .i64 (wrap64 (x + 1)))) G #[.int .i64 (wrap64 (x + 1))] 3 := Blk.set (vs := #[.int .i64 x]) hG.1 0 (by simp) _
  have k1 : (w.setCell ⟨G, 0, none⟩ (.int .i64 (wrap64 (x + 1)))).cell? ⟨g, o, none⟩ = some (.int .i64 k) := (World.cell?_of_block (w := w) (a := ⟨g, o, none⟩) (Below.heap_setCell w ⟨G, 0, none⟩ _ g (by show g ≠ G; omega))).trans c0
  have C := hide (counts_any k g o _ k1)
  have a0 : w.cell? ⟨G, 0, none⟩ = some (.int .i64 x) := hG.1.cell 0
  have f0 : w.frozen? ⟨G, 0, none⟩ = false := hG.1.frozen 0
  have a1 : w.cell? ⟨G + 1, 0, none⟩ = some (.bool b) := hG.2.cell 0
  have f1 : w.frozen? ⟨G + 1, 0, none⟩ = false := hG.2.frozen 0
  clear hG hG1 hG2 k1 c0
  unfold grB
  by_cases h1 : 300 < wrap64 (x + 1)
  · rw [decide_eq_true h1, Bool.true_or]
    go_enter Tryd.func102, Tryd.ntmps102
    go_wp2
    go_ret
    exact ⟨rfl, rfl⟩
  · rw [decide_eq_false h1, Bool.false_or]
    generalize countsB k = cb at *
    go_enter Tryd.func102, Tryd.ntmps102
    go_wp2_with fail
    refine (unhide C).mono ?_
    rintro e w1 ⟨rfl, hw1⟩
    subst hw1
    cases cb with
    | false =>
      go_wp2
      go_ret
      exact ⟨rfl, rfl⟩
    | true =>
      go_wp2
      go_ret
      exact ⟨rfl, rfl⟩
def deepIn (l : List Item) : Prop := ∃ it, it ∈ l ∧ countsB it.k = true ∧ 40 < it.d
theorem deepIn_nil : ¬ deepIn [] := fun ⟨_, h, _⟩ => by cases h
theorem deepIn_cons (it : Item) (l : List Item) : deepIn (it :: l) ↔ (countsB it.k = true ∧ 40 < it.d) ∨ deepIn l := by
  constructor
  · rintro ⟨x, hx, h⟩
    rcases List.mem_cons.1 hx with rfl | hx
    · exact Or.inl h
    · exact Or.inr ⟨x, hx, h⟩
  · rintro (h | ⟨x, hx, h⟩)
    · exact ⟨it, List.mem_cons_self .., h⟩
    · exact ⟨x, List.mem_cons_of_mem _ hx, h⟩
theorem tell_dep : ∀ (l : List Item) (m : Nat), 40 < tell depStep m l ↔ 40 < m ∨ deepIn l
  | [], m => by
    show 40 < m ↔ _
    have := deepIn_nil
    exact ⟨Or.inl, fun h => h.resolve_right this⟩
  | it :: l, m => by
    rw [tell, if_pos (show (depStep m it).2 = true from rfl), tell_dep l, deepIn_cons]
    show 40 < (if countsB it.k = true then max m it.d else m) ∨ _ ↔ _
    cases hk : countsB it.k with
    | false => rw [if_neg (by simp)]; simp
    | true =>
      rw [if_pos rfl]
      constructor
      · rintro (h | h)
        · rcases Nat.lt_or_ge 40 m with h' | h'
          · exact Or.inl h'
          · exact Or.inr (Or.inl ⟨rfl, by omega⟩)
        · exact Or.inr (Or.inr h)
      · rintro (h | ⟨_, h⟩ | h)
        · exact Or.inl (by omega)
        · exact Or.inl (by omega)
        · exact Or.inr h
theorem tell_gr : ∀ (l : List Item) (c : Nat), c ≤ 300 → ((tell grStep ((c : Int), false) l).2 = true ↔ 300 < c + l.length ∨ deepIn l)
  | [], c, hc => by
    show false = true ↔ _
    have := deepIn_nil
    constructor
    · intro h; cases h
    · rintro (h | h)
      · simp at h; omega
      · exact absurd h this
  | it :: l, c, hc => by
    have hw : wrap64 ((c : Int) + 1) = ((c + 1 : Nat) : Int) := by unfold wrap64; omega
    have hg : grB (c : Int) it.k it.d = (decide (300 < c + 1) || (countsB it.k && decide (40 < it.d))) := by
      unfold grB; rw [hw]
      congr 1
      · exact decide_eq_decide.2 (by omega)
      · congr 1; exact decide_eq_decide.2 (by omega)
    rw [tell, deepIn_cons, List.length_cons]
    show (if (!(grB (c : Int) it.k it.d)) = true then tell grStep (wrap64 ((c : Int) + 1), grB (c : Int) it.k it.d) l else (wrap64 ((c : Int) + 1), grB (c : Int) it.k it.d)).2 = true ↔ _
    cases hb : grB (c : Int) it.k it.d with
    | false =>
      rw [hb] at hg
      have h0 := hg.symm
      rw [Bool.or_eq_false_iff, Bool.and_eq_false_iff] at h0
      obtain ⟨h1, h2⟩ := h0
      have h1' : ¬ 300 < c + 1 := of_decide_eq_false h1
      rw [if_pos (by simp), hw, tell_gr l (c + 1) (by omega)]
      have hn : ¬ (countsB it.k = true ∧ 40 < it.d) := by
        rintro ⟨h3, h4⟩
        rcases h2 with h2 | h2
        · rw [h3] at h2; cases h2
        · exact of_decide_eq_false h2 h4
      rw [show c + 1 + l.length = c + (l.length + 1) by omega]
      constructor
      · rintro (h | h)
        · exact Or.inl h
        · exact Or.inr (Or.inr h)
      · rintro (h | h | h)
        · exact Or.inl h
        · exact absurd h hn
        · exact Or.inr h
    | true =>
      rw [hb] at hg
      rw [if_neg (by simp)]
      have h0 := hg.symm
      rw [Bool.or_eq_true, Bool.and_eq_true] at h0
      refine ⟨fun _ => ?_, fun _ => rfl⟩
      rcases h0 with h | ⟨h1, h2⟩
      · left; have := of_decide_eq_true h; omega
      · right; left; exact ⟨h1, of_decide_eq_true h2⟩
def greatB (f : Forest) : Bool := decide (300 < f.count) || decide (40 < tell depStep 0 (items f 1))
theorem tell_great (f : Forest) : (tell grStep (0, false) (items f 1)).2 = greatB f := by
  have h := tell_gr (items f 1) 0 (by omega)
  have h2 := tell_dep (items f 1) 0
  rw [items_len, Nat.zero_add] at h
  have h3 : (tell grStep (0, false) (items f 1)).2 = true ↔ greatB f = true := by
    unfold greatB
    rw [Bool.or_eq_true, decide_eq_true_iff, decide_eq_true_iff, h2]
    refine Iff.trans h ?_
    constructor
    · exact fun h => h.imp id Or.inr
    · exact fun h => h.imp id fun h => h.resolve_left (by omega)
  exact Bool.eq_iff_iff.2 h3
set_option maxHeartbeats 2000000 in
theorem great_any (f : Forest) (q : Option Addr) (cap : Nat) (w : World) (hf : Fo q f w) (hcap : f.len ≤ cap) (hc : f.count ≤ 1000000) :
    Calls Tryd.prog 81 #[.slice q f.len cap] w fun e w' => e = .returned (.bool (greatB f)) ∧ Below w.heap.size w w' := by
  have CW := hide (walk_great grStep (fun s W => GrAt w.heap.size s W) w.heap.size (w.heap.size + 1) w (w.heap.size + 2)
    (fun c W W' h hb => ⟨(hb _ (by omega)).trans h.1, (hb _ (by omega)).trans h.2⟩)
    (fun s k sp n ats tx kids rest g o d W hI hb hB hl hd => (great1_any s.1 s.2 d w.heap.size g o k W hI (cell_later hb hl.1.1) (World.block_lt_of_cell? w _ hl.1.1)).mono fun e W' ⟨h1, h2⟩ => by
      subst h2
      refine ⟨h1, ⟨?_, ?_⟩, (hb.setCell (by simp) _).setCell (by simp) _, by simp, fun b hb1 hb2 => ?_⟩
      · exact (Blk.set (vs := #[.int .i64 s.1]) hI.1 0 (by simp) _).away (by omega) _
      · exact Blk.set (vs := #[.bool s.2]) (hI.2.away (by omega) _) 0 (by simp) _
      · exact (Below.heap_setCell _ ⟨w.heap.size + 1, 0, none⟩ _ b (by show b ≠ w.heap.size + 1; omega)).trans (Below.heap_setCell W ⟨w.heap.size, 0, none⟩ _ b (by show b ≠ w.heap.size; omega)))
    f q cap ((w.alloc (Obj.cells #[.int .i64 0] 3)).alloc (Obj.cells #[.bool false] 4)) hf hcap hc (0, false) ⟨(Blk.new w _ _).alloc _, by have := Blk.new (w.alloc (Obj.cells #[.int .i64 0] 3)) #[.bool false] 4; simpa using this⟩ (((Below.refl _ _).alloc (Nat.le_refl _) _).alloc (by simp) _) (by omega) (by simp))
  rw [← tell_great]
  generalize tell grStep (0, false) (items f 1) = D at *
  obtain ⟨D1, D2⟩ := D
  unfold GrAt at CW
  clear hf
  go_enter Tryd.func81, Tryd.ntmps81
  go_wp2_with fail
  refine (unhide CW).mono ?_
  rintro e w1 ⟨rfl, hk, hb⟩
  have c0 : w1.cell? ⟨w.heap.size + 1, 0, none⟩ = some (.bool D2) := hk.2.cell 0
  clear hk CW
  go_wp2
  go_ret
  exact ⟨rfl, hb⟩
end Go.Proofs.YtpfnjgkfombmpaaDoor
