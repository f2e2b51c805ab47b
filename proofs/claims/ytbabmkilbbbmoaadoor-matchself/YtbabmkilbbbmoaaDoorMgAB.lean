/-
  Several texts in one: what the functions of the program and of the document's answer do.
-/
import Derived.Test.YtbabmkilbbbmoaaDoorMgAA
import Derived.Deep.RegionWith
import Derived.Deep.Cut

/-
  What keys.walk does (whole) under the closure of keys.Items.
-/
namespace Go.Proofs.YtbabmkilbbbmoaaDoor
open Go.RowKit Go.Maps
set_option linter.unusedVariables false
set_option linter.unusedSimpArgs false

theorem infoLev0 : (Tryd.prog.info? 137).map (fun i => (i.zero, i.size, i.bytes)) = some (some (.agg #[.slice none 0 0, .int .i64 0, .int .i64 0]), 3, 40) := by kernel_rfl
theorem infoLev : ∃ i, Tryd.prog.info? 137 = some i ∧ i.zero = some (.agg #[.slice none 0 0, .int .i64 0, .int .i64 0]) ∧ i.size = 3 ∧ i.bytes = 40 := by
  have h := infoLev0
  cases hi : Tryd.prog.info? 137 with
  | none => rw [hi] at h; cases h
  | some i =>
    rw [hi] at h
    simp only [Option.map_some, Option.some.injEq, Prod.mk.injEq] at h
    exact ⟨i, rfl, h.1, h.2.1, h.2.2⟩
def LevOk (w0 : World) (l : Lev) : Prop := Fo l.q l.F w0 ∧ l.F.len ≤ l.cap ∧ l.nx ≤ l.F.len ∧ l.F.len ≤ 1000000
/-- The top level's cells. -/
theorem top_cells {w : World} {base : Nat} {v : Value} {l : Lev} {st : List Lev} (h : w.ownsRow base 137 3 v (st.length + 1) (rowL (l :: st))) : ∃ g cap, v = .slice (some ⟨g, 0, none⟩) (st.length + 1) cap ∧ base ≤ g ∧ st.length + 1 ≤ cap ∧ w.cell? ⟨g, st.length * 3, none⟩ = some (.slice l.q l.F.len l.cap) ∧ w.cell? ⟨g, st.length * 3 + 1, none⟩ = some (.int .i64 l.par) ∧ w.cell? ⟨g, st.length * 3 + 2, none⟩ = some (.int .i64 (l.nx : Int)) ∧ (∀ o, w.frozen? ⟨g, o, none⟩ = false) ∧ w.ownsRow base 137 3 (.slice (some ⟨g, 0, none⟩) st.length cap) st.length (rowL st) ∧ ∀ z : Int, (w.setCell ⟨g, st.length * 3 + 2, none⟩ (.int .i64 z)).ownsRow base 137 3 (.slice (some ⟨g, 0, none⟩) (st.length + 1) cap) (st.length + 1) (rowL st ++ [.slice l.q l.F.len l.cap, .int .i64 l.par, .int .i64 z]) := by
  obtain ⟨hl, h⟩ := h
  rcases h with ⟨_, h⟩ | ⟨g, cap, cur, rfl, h1, h2, h3, h4, h5, h6⟩
  · omega
  · have hln := rowL_len st
    have hc : ∀ j, j < 3 → w.cell? ⟨g, st.length * 3 + j, none⟩ = (levL l)[j]? := by
      intro j hj
      rw [Joins.cell_of_block h2]
      have e : (cur.toList.take ((st.length + 1) * 3))[st.length * 3 + j]? = (levL l)[j]? := by
        rw [h6, rowL, List.getElem?_append_right (by omega)]
        congr 1
        omega
      rw [List.getElem?_take, if_pos (by omega)] at e
      simpa using e
    refine ⟨g, cap, rfl, h1, h3, hc 0 (by decide), hc 1 (by decide), hc 2 (by decide), fun o => by simp [World.frozen?, h2], ⟨by rw [hln], .inr ⟨g, cap, cur, rfl, h1, h2, by omega, h4, h5, ?_⟩⟩, fun z => ⟨by simp [hln]; omega, .inr ⟨g, cap, cur.setIfInBounds (st.length * 3 + 2) (.int .i64 z), rfl, h1, ?_, h3, h4, by simpa using h5, ?_⟩⟩⟩
    · have := congrArg (List.take (st.length * 3)) h6
      rw [List.take_take, Nat.min_eq_left (by omega), rowL, List.take_append_of_le_length (by omega)] at this
      rw [this]
      exact List.take_of_length_le (by omega)
    · simp [World.setCell, Array.getElem?_modify, h2]
    · rw [Array.toList_setIfInBounds]
      apply List.ext_getElem?
      intro k
      have hk : (cur.toList.take ((st.length + 1) * 3))[k]? = (rowL (l :: st))[k]? := by rw [h6]
      rw [List.getElem?_take] at hk ⊢
      by_cases hlt : k < (st.length + 1) * 3
      · rw [if_pos hlt] at hk ⊢
        rw [List.getElem?_set]
        by_cases e : st.length * 3 + 2 = k
        · rw [if_pos e, if_pos (by simp; omega), ← e, List.getElem?_append_right (by omega)]
          rw [show st.length * 3 + 2 - (rowL st).length = 2 by omega]
          rfl
        · rw [if_neg e, hk, rowL]
          by_cases hlo : k < st.length * 3
          · rw [List.getElem?_append_left (by omega), List.getElem?_append_left (by omega)]
          · rw [List.getElem?_append_right (by omega), List.getElem?_append_right (by omega)]
            obtain ⟨d, hd⟩ : ∃ d, k - (rowL st).length = d := ⟨_, rfl⟩
            rw [hd]
            have hd2 : d < 2 := by omega
            rcases d with _ | _ | d
            · rfl
            · rfl
            · omega
      · rw [if_neg hlt, List.getElem?_eq_none (by simp [hln]; omega)]

theorem three_new (w : World) (x y z : Value) (t : TypeId) : ∀ j u, [x, y, z][j]? = some u → (w.alloc (Obj.cells #[x, y, z] t)).cell? ((⟨w.heap.size, 0, none⟩ : Addr).add j) = some u := by
  intro j u h
  have e : (⟨w.heap.size, 0, none⟩ : Addr).add j = ⟨w.heap.size, j, none⟩ := by unfold Addr.add; split <;> simp_all
  rw [e, (Blk.new w #[x, y, z] t).cell j]
  simpa using h
theorem keep_blk {G : Nat} {w w' : World} (h : KeepI G w w') {b : Nat} {cs : Array Value} {t : TypeId} {z : Nat × Nat} (hb : w.heap[b]? = some (.cells cs t z)) (hne : b ≠ G) (ht : t ≠ 49) : w'.heap[b]? = some (.cells cs t z) := by
  have hlt : b < w.heap.size := by
    rcases Nat.lt_or_ge b w.heap.size with h | h
    · exact h
    · rw [Array.getElem?_eq_none h] at hb; cases hb
  rw [h.2.2.2.2 b hlt hne (fun _ cs' z' e => by rw [hb] at e; injection e with e; injection e with _ e; exact ht e)]
  exact hb
theorem keep_row {G : Nat} {w w' : World} (h : KeepI G w w') {base : Nat} {v : Value} {n : Nat} {xs : List Value} (hr : w.ownsRow base 137 3 v n xs) (hG : G < base) : w'.ownsRow base 137 3 v n xs := by
  obtain ⟨hl, hr⟩ := hr
  refine ⟨hl, ?_⟩
  rcases hr with hr | ⟨g, cap, cur, h1, h2, h3, h4⟩
  · exact .inl hr
  · exact .inr ⟨g, cap, cur, h1, h2, keep_blk h h3 (by omega) (by decide), h4⟩
theorem keep_below {G : Nat} {w0 w w' : World} (h : KeepI G w w') (hb : Below w0.heap.size w0 w) (hG : w0.heap.size ≤ G) : Below w0.heap.size w0 w' :=
  ⟨h.1.trans hb.os, h.2.1.trans hb.tape, h.2.2.1.trans hb.output, Nat.le_trans hb.size h.2.2.2.1, fun k hk => by
    have hz := hb.size
    rw [h.2.2.2.2 k (by omega) (by omega) (fun hx => by omega)]
    exact hb.block k hk⟩
theorem AllV.keeps {w w' : World} {G : Nat} {acc : List It} (h : AllV w G acc) (hk : ∀ b, b < w.heap.size → G ≤ b → (∀ cs z, w.heap[b]? ≠ some (.cells cs 137 z)) → w'.heap[b]? = w.heap[b]?) : AllV w' G acc := by
  obtain ⟨u, h1, h2⟩ := h
  have hlt := h1.lt
  refine ⟨u, (hk G hlt (Nat.le_refl _) (fun cs z e => ?_)).trans h1, ?_⟩
  · have := h1.symm.trans e
    simp at this
  · obtain ⟨hl, hr⟩ := h2
    refine ⟨hl, ?_⟩
    rcases hr with hr | ⟨g, cap, cur, q1, q2, q3, q4⟩
    · exact .inl hr
    · refine .inr ⟨g, cap, cur, q1, q2, ?_, q4⟩
      have hglt : g < w.heap.size := by
        rcases Nat.lt_or_ge g w.heap.size with h | h
        · exact h
        · rw [Array.getElem?_eq_none h] at q3; cases q3
      rw [hk g hglt (by omega) (fun cs z e => by rw [q3] at e; simp at e)]
      exact q3
/-- What holds each round. -/
def WkAt (w0 : World) (G B1 : Nat) (all : List It) (gk : Nat) (num : Nat) (left : Value) (wr : World) : Prop :=
  ∃ (st : List Lev) (acc : List It), cntL st + num ≤ 1000000 ∧ num = acc.length ∧ st.length + cntL st ≤ 1000001 ∧ 2 * cntL st + st.length = gk ∧ (∀ l ∈ st, LevOk w0 l) ∧ wr.ownsRow B1 137 3 left st.length (rowL st) ∧ acc ++ tdo st num = all ∧ AllV wr G acc ∧ Below w0.heap.size w0 wr

set_option maxHeartbeats 4000000 in
set_option maxRecDepth 100000 in
theorem kwalk_items (f : Forest) (q : Option Addr) (cap G : Nat) (w0 w : World) (hf : Fo q f w0) (hcap : f.len ≤ cap) (hc : f.count ≤ 500000) (hA : AllV w G []) (hb : Below w0.heap.size w0 w) (hG : w0.heap.size ≤ G) :
    Calls Tryd.prog 43 #[.slice q f.len cap, .func (.func 44) #[] #[.pointer (some ⟨G, 0, none⟩)]] w fun e w' => e = .returned (.tuple #[]) ∧ AllV w' G (itm f 0 (-1) 0 0) ∧ Below w0.heap.size w0 w' := by
  obtain ⟨i0, hi0, hi1, hi2, hi3⟩ := infoLev
  have hGlt : G < w.heap.size := by obtain ⟨u, h1, _⟩ := hA; exact h1.lt
  have hrow0 : (w.alloc (Obj.cells #[.slice q f.len cap, .int .i64 (-1), .int .i64 0] 137)).ownsRow w.heap.size 137 3 (.slice (some ⟨w.heap.size, 0, none⟩) 1 1) 1 (rowL [⟨f, q, cap, -1, 0⟩]) :=
    ⟨rfl, Or.inr ⟨w.heap.size, 1, #[.slice q f.len cap, .int .i64 (-1), .int .i64 0], rfl, Nat.le_refl _, Blk.new w _ _, Nat.le_refl _, by unfold maxLen; omega, rfl, rfl⟩⟩
  have HAT : Hid (WkAt w0 G w.heap.size (itm f 0 (-1) 0 0) (2 * f.count + 1) 0 (.slice (some ⟨w.heap.size, 0, none⟩) 1 1) (w.alloc (Obj.cells #[.slice q f.len cap, .int .i64 (-1), .int .i64 0] 137))) := hide
    ⟨[⟨f, q, cap, -1, 0⟩], [], by simp [cntL, Forest.drop_zero]; omega, rfl, by simp [cntL, Forest.drop_zero]; omega, by simp [cntL, Forest.drop_zero], fun l hl => by simp at hl; subst hl; exact ⟨hf, hcap, Nat.zero_le _, by have := f.len_count; show f.len ≤ _; omega⟩, hrow0, by simp [tdo, Forest.drop_zero], hA.keeps (fun b hlt _ _ => ((Below.refl w.heap.size w).alloc (Nat.le_refl _) _).block b hlt), hb.alloc (by have := hb.size; omega) _⟩
  have hbs := hb.size
  clear hrow0 hA hf hb
  go_enter Tryd.func43, Tryd.ntmps43
  go_wp2
  go_loopg [4, 5] (2 * f.count + 1) (fun gk nv left wr => ∃ num : Nat, nv = .int .i64 (num : Int) ∧ WkAt w0 G w.heap.size (itm f 0 (-1) 0 0) gk num left wr)
  case atStart => exact ⟨0, rfl, unhide HAT⟩
  case round =>
    clear HAT
    obtain ⟨num, rfl, st, acc, hc1, hnum, hc2, hgk, hok, hrow, htl, hall, hbw⟩ := hrel
    rcases st with _ | ⟨l, st⟩
    · obtain ⟨a4, n4, cap4, hv4⟩ := slice_of hrow
      have hn4 : n4 = 0 := by
        rcases hrow.2 with ⟨h, _⟩ | ⟨g, cap, cur, h, _⟩ <;> (rw [hv4] at h; cases h; rfl)
      subst hv4
      subst hn4
      have HF : Hid (acc = itm f 0 (-1) 0 0) := hide (by rw [← htl]; simp [tdo])
      have HX := hide (And.intro hall hbw)
      clear htl hok hrow hall hbw
      go_wp2
      refine bodyPost_end (v := .tuple #[]) (results_none Tryd.results43 _ _ _) rfl ?_
      exact ⟨rfl, by rw [← unhide HF]; exact (unhide HX).1, (unhide HX).2⟩
    · obtain ⟨b, capb, rfl, hbb, hcb, c0, c1, c2, cf, hpop, hset⟩ := top_cells hrow
      have hokl := hok l (List.mem_cons_self ..)
      have HOK := hide (show ∀ x ∈ st, LevOk w0 x from fun e he => hok e (List.mem_cons_of_mem _ he))
      have hln : (st.length : Int) + 1 ≤ 1000001 := by simp at hc2; omega
      have hcbi : (st.length : Int) + 1 ≤ (capb : Int) := by omega
      obtain ⟨hfo, hlc, hnx, hfl⟩ := hokl
      have hflc : l.F.len ≤ 500000000 ∨ True := Or.inr trivial
      by_cases hend : l.nx = l.F.len
      · have hnil := Forest.drop_out l.nx l.F (by omega)
        obtain ⟨e1, e2⟩ := tdo_pop l st num hnil
        have HT : Hid (acc ++ tdo st num = itm f 0 (-1) 0 0) := hide (by rw [← e1]; exact htl)
        have HX := hide (And.intro hall (And.intro hbw hpop))
        have hg' : 2 * cntL st + st.length < gk := by rw [e2] at hgk; simp at hgk; omega
        have hc1' : cntL st + num ≤ 1000000 := by rw [e2] at hc1; omega
        have hc2' : st.length + cntL st ≤ 1000001 := by rw [e2] at hc2; simp at hc2; omega
        have f2 := cf (st.length * 3 + 2)
        rw [hend] at c2
        generalize l.F.len = fl at *
        clear htl hok hrow hall hbw hset hpop hfo hgk hc1 hc2 e1 e2 cf hend hnil
        go_wp2
        go_region
        go_wp2
        go_roundg (2 * cntL st + st.length)
        case measure => exact hg'
        case rel => exact ⟨num, rfl, st, acc, hc1', hnum, hc2', rfl, unhide HOK, (unhide HX).2.2, unhide HT, (unhide HX).1, (unhide HX).2.1.drew⟩
      · have hlt : l.nx < l.F.len := by omega
        obtain ⟨k, sp, n, ats, tx, kids, hd⟩ := Forest.drop_cons l.nx l.F hlt
        rcases hfo with h | ⟨g, o, hq, hl⟩
        · rw [h] at hlt; simp [Forest.len] at hlt
        have hld := hl.drop l.nx
        rw [hd] at hld
        obtain ⟨⟨-, -, -, -, -, ⟨qk, ck, l5, hck, hfk⟩⟩, -⟩ := hld
        have hgw : g < w0.heap.size := World.block_lt_of_cell? w0 _ l5
        obtain ⟨e1, e2⟩ := tdo_push l st num qk ck hd
        have HT : Hid ((acc ++ [((num : Int), l.par, (l.nx : Int), (st.length : Int))]) ++ tdo (⟨kids, qk, ck, (num : Int), 0⟩ :: { l with nx := l.nx + 1 } :: st) (num + 1) = itm f 0 (-1) 0 0) := hide (by rw [List.append_assoc, List.singleton_append, ← e1]; exact htl)
        have hcu : cntL (⟨kids, qk, ck, (num : Int), 0⟩ :: { l with nx := l.nx + 1 } :: st) + 1 = cntL (l :: st) := e2.symm
        have HC : Hid (2 * cntL (⟨kids, qk, ck, (num : Int), 0⟩ :: { l with nx := l.nx + 1 } :: st) + (st.length + 2) < gk ∧ cntL (⟨kids, qk, ck, (num : Int), 0⟩ :: { l with nx := l.nx + 1 } :: st) + (num + 1) ≤ 1000000 ∧ (st.length + 2) + cntL (⟨kids, qk, ck, (num : Int), 0⟩ :: { l with nx := l.nx + 1 } :: st) ≤ 1000001) := hide (by simp at hgk hc2; omega)
        have HOK2 : Hid (∀ x ∈ (⟨kids, qk, ck, (num : Int), 0⟩ :: { l with nx := l.nx + 1 } :: st : List Lev), LevOk w0 x) := hide (fun x hx => by
          rcases List.mem_cons.1 hx with rfl | hx
          · exact ⟨hfk, hck, Nat.zero_le _, by have := kids.len_count; simp only [cntL, hd, Forest.count] at hc1; show kids.len ≤ _; omega⟩
          · rcases List.mem_cons.1 hx with rfl | hx
            · exact ⟨Or.inr ⟨g, o, hq, hl⟩, hlc, hlt, hfl⟩
            · exact unhide HOK x hx)
        have hnl : acc.length ≤ 1000000 := by omega
        have hnumb : (num : Int) + 1 ≤ 1000001 := by omega
        have HNUM := hide hnum
        have hwst : IntKind.i64.wrap (st.length : Int) = (st.length : Int) := by rw [IntKind.wrap_i64]; omega
        have CC := hide (fun W hW => itemsC_any (.pointer (some ⟨g, o + l.nx * 6, none⟩)) ((num : Int), l.par, (l.nx : Int), (st.length : Int)) G acc W hW hnl)
        have HALL := hide hall
        have HBW := hide hbw
        have HROW := hide hrow
        have f2 := cf (st.length * 3 + 2)
        have hltn : (l.nx : Int) < (l.F.len : Int) := by omega
        have hnf : ((l.nx : Int) == (l.F.len : Int)) = false := beq_eq_false_iff_ne.2 (by omega)
        have hnfN : (l.nx == l.F.len) = false := beq_eq_false_iff_ne.2 hend
        have hb0 : w0.heap.size ≤ b := by omega
        have L5 := hide l5
        dsimp only at CC
        rw [hq] at c0
        have HRL : Hid (∀ z : Int, rowL st ++ [.slice l.q l.F.len l.cap, .int .i64 l.par, .int .i64 z] = rowL st ++ [.slice l.q l.F.len l.cap, .int .i64 l.par, .int .i64 z]) := hide (fun _ => rfl)
        clear hnum hset hpop htl hok hrow hall hbw hl hlc hnx hd l5 hfk hck e1 e2 hcu cf hend hlt hflc hgk hc1 hc2
        go_wp2
        go_region
        go_wp2
        go_region
        go_wp2
        go_region_with (go_at_call 44; refine Calls.mono (unhide CC _ (unhide HALL)) ?_; rintro e w2 ⟨rfl, hall2, hk2⟩; have HALL2 := hide hall2; have HK2 := hide hk2; clear hall2 hk2)
        all_goals (
          go_upto_region 8 with fail
          have HROW2 := hide (keep_row (unhide HK2) (unhide HROW) (by omega))
          obtain ⟨b', cap', eb, -, -, d0, d1, d2, df, -, hset⟩ := top_cells (unhide HROW2)
          cases eb
          have HSET := hide (hset ((l.nx : Int) + 1))
          have HB2 := hide (keep_below (unhide HK2) (unhide HBW).drew.drew.drew hG)
          have k5 : w2.cell? ⟨g, o + l.nx * 6 + 5, none⟩ = some (.slice qk kids.len ck) := cell_later (unhide HB2) (unhide L5)
          have g2 := df (st.length * 3 + 2)
          have k6 : (w2.setCell ⟨b, st.length * 3 + 2, none⟩ (.int .i64 ((l.nx : Int) + 1))).cell? ⟨g, o + l.nx * 6 + 5, none⟩ = some (.slice qk kids.len ck) := (World.cell?_of_block (w := w2) (a := ⟨g, o + l.nx * 6 + 5, none⟩) (Below.heap_setCell w2 ⟨b, st.length * 3 + 2, none⟩ _ _ (by show g ≠ b; omega))).trans k5
          have hsz2 := (unhide HB2).size
          have hb2lt : b < w2.heap.size := World.block_lt_of_cell? w2 _ d0
          have HNX : Hid (rowL ({ l with nx := l.nx + 1 } :: st) = rowL st ++ [.slice l.q l.F.len l.cap, .int .i64 l.par, .int .i64 ((l.nx : Int) + 1)]) := hide rfl
          have hn1 : (l.nx : Int) + 1 ≤ 1000001 := by omega
          have hsl : (st.length : Int) + 1 ≤ 1000001 := by omega
          clear hset df c0 c1 c2 f2 CC HALL HBW HROW d0 d1 hwst hltn hnf hnfN hfl hln k5 hcb hcbi hc hcap hbs hnl
          iterate 30 go_step
          go_wp2_with (at_builtin; refine wpList_append_own_at _ rfl _ _ 138 rfl w.heap.size 137 i0 (.agg #[.slice none 0 0, .int .i64 0, .int .i64 0]) 3 40 Tryd.underlying138 hi0 hi1 hi2 hi3 rfl (by decide) (.slice (some ⟨b, 0, none⟩) (st.length + 1) capb) _ _ rfl ((unhide HSET).alloc _) ⟨w2.heap.size, 0, none⟩ 1 1 [.slice qk kids.len ck, .int .i64 (num : Int), .int .i64 0] rfl rfl (by have := three_new (w2.setCell ⟨b, st.length * 3 + 2, none⟩ (.int .i64 ((l.nx : Int) + 1))) (.slice qk kids.len ck) (.int .i64 (num : Int)) (.int .i64 0) 137; simpa using this) (by simp [Value.oneCell']) (by simp only [maxLen]; omega) (by omega) (by simp; omega) ?_; intro v' w3 hown hgr _ _; obtain ⟨yq, yn, yc, rfl⟩ := slice_of hown)
          have HO := hide hown
          have HGR := hide hgr
          have hz3 : w2.heap.size ≤ w3.heap.size := by have := hgr.size; simp at this; omega
          have hob : ∀ j, some j = (Value.slice (some (⟨b, 0, none⟩ : Addr)) (st.length + 1) capb).ownBlock → j = b := fun j hj => by simp [Value.ownBlock] at hj; exact hj
          have HB3 : Hid (Below w0.heap.size w0 w3) := hide ((((unhide HB2).setCell (p := ⟨b, st.length * 3 + 2, none⟩) hb0 _).alloc (by simp; omega) _).grown hgr (by simp; omega) (fun j hj => by have := hob j hj.symm; omega))
          clear hown hgr
          go_wp2
          go_roundg (2 * cntL (⟨kids, qk, ck, (num : Int), 0⟩ :: { l with nx := l.nx + 1 } :: st) + (st.length + 2))
          case measure => exact (unhide HC).1
          case rel =>
            refine ⟨num + 1, by go_num, _, _, (unhide HC).2.1, by simp [unhide HNUM], (unhide HC).2.2, rfl, unhide HOK2, unhide HO, unhide HT, ?_, unhide HB3⟩
            obtain ⟨_, cur, hcur⟩ := owns_blockI (unhide HROW2) (k := b) rfl
            refine (unhide HALL2).keeps (fun c hlt hGc hnot => ?_)
            have hcb : c ≠ b := by
              rintro rfl
              exact hnot _ _ hcur
            rw [(unhide HGR).block c (by simp; omega) (fun e => hcb (hob c e))]
            have e1 := (((Below.refl (w2.setCell ⟨b, st.length * 3 + 2, none⟩ (.int .i64 ((l.nx : Int) + 1))).heap.size (w2.setCell ⟨b, st.length * 3 + 2, none⟩ (.int .i64 ((l.nx : Int) + 1)))).alloc (Nat.le_refl _) (Obj.cells #[.slice qk kids.len ck, .int .i64 (num : Int), .int .i64 0] 137)).block c (by simp; omega))
            rw [e1, Below.heap_setCell w2 ⟨b, st.length * 3 + 2, none⟩ _ c hcb])
end Go.Proofs.YtbabmkilbbbmoaaDoor

/-
  What keys.Items adds up from the last item on: plain facts.
-/
namespace Go.Proofs.YtbabmkilbbbmoaaDoor
open Go.RowKit
set_option linter.unusedVariables false
set_option linter.unusedSimpArgs false

/-- One step: a node's size is one more, and is added to its parent's. -/
def bkA (S : Nat → Int) (i : Nat) : Nat → Int := fun k => if k = i then S k + 1 else S k
def bkS (S : Nat → Int) (i : Nat) (p : Int) : Nat → Int := fun k => if 0 ≤ p ∧ (k : Int) = p then bkA S i k + bkA S i i else bkA S i k
def bk : List It → Nat → (Nat → Int) → Nat → Int
  | [], _, S => S
  | x :: r, i, S => bkS (bk r (i + 1) S) i x.2.1
theorem bk_app : ∀ (a b : List It) (i : Nat) (S : Nat → Int), bk (a ++ b) i S = bk a i (bk b (i + a.length) S)
  | [], b, i, S => rfl
  | x :: r, b, i, S => by
    show bkS (bk (r ++ b) (i + 1) S) i x.2.1 = bkS (bk r (i + 1) (bk b (i + (r.length + 1)) S)) i x.2.1
    rw [bk_app r b (i + 1) S, show i + 1 + r.length = i + (r.length + 1) by omega]
/-- The sizes of nodes, in their order. -/
def szF : Forest → List Int
  | .nil => []
  | .cons _ _ _ _ _ kids rest => (1 + (kids.count : Int)) :: (szF kids ++ szF rest)
theorem szF_len : ∀ f : Forest, (szF f).length = f.count
  | .nil => rfl
  | .cons _ _ _ _ _ kids rest => by simp only [szF, List.length_cons, List.length_append, szF_len kids, szF_len rest, Forest.count]; omega
def szA (f : Forest) (k : Nat) : Int := ((szF f)[k]?).getD 0
theorem szA_head (k sp : Int) (n : ByteArray) (ats : List (ByteArray × ByteArray)) (tx : ByteArray) (kids rest : Forest) : szA (.cons k sp n ats tx kids rest) 0 = 1 + (kids.count : Int) := rfl
theorem szA_kids (k sp : Int) (n : ByteArray) (ats : List (ByteArray × ByteArray)) (tx : ByteArray) (kids rest : Forest) (j : Nat) (h : j < kids.count) : szA (.cons k sp n ats tx kids rest) (j + 1) = szA kids j := by
  unfold szA
  simp only [szF, List.getElem?_cons_succ]
  rw [List.getElem?_append_left (by rw [szF_len]; exact h)]
theorem szA_rest (k sp : Int) (n : ByteArray) (ats : List (ByteArray × ByteArray)) (tx : ByteArray) (kids rest : Forest) (j : Nat) : szA (.cons k sp n ats tx kids rest) (kids.count + j + 1) = szA rest j := by
  unfold szA
  simp only [szF, List.getElem?_cons_succ]
  rw [List.getElem?_append_right (by rw [szF_len]; omega), szF_len, show kids.count + j - kids.count = j by omega]
theorem bk_itm : ∀ (f : Forest) (num : Nat) (par : Int) (pl dep : Nat) (S : Nat → Int), par < (num : Int) → (∀ k, num ≤ k → k < num + f.count → S k = 0) →
    ∀ k, bk (itm f num par pl dep) num S k = if num ≤ k ∧ k < num + f.count then szA f (k - num) else if 0 ≤ par ∧ (k : Int) = par then S k + (f.count : Int) else S k
  | .nil, num, par, pl, dep, S, hp, hz, k => by
    show S k = _
    have hC : Forest.nil.count = 0 := rfl
    generalize Forest.nil.count = C at *
    subst hC
    rw [if_neg (show ¬ (num ≤ k ∧ k < num + 0) by omega)]
    split
    · simp
    · rfl
  | .cons kd sp n ats tx kids rest, num, par, pl, dep, S, hp, hz, k => by
    have hC : (Forest.cons kd sp n ats tx kids rest).count = 1 + kids.count + rest.count := rfl
    have hz' : ∀ k, num ≤ k → k < num + (1 + kids.count + rest.count) → S k = 0 := hz
    clear hz
    generalize (Forest.cons kd sp n ats tx kids rest).count = C at *
    subst hC
    have hR := bk_itm rest (num + 1 + kids.count) par (pl + 1) dep S (by omega) (fun k h1 h2 => hz' k (by omega) (by omega))
    have hA : ∀ k, num + 1 ≤ k → k < num + 1 + kids.count → bk (itm rest (num + 1 + kids.count) par (pl + 1) dep) (num + 1 + kids.count) S k = 0 := fun k h1 h2 => by
      rw [hR k, if_neg (show ¬ (num + 1 + kids.count ≤ k ∧ k < num + 1 + kids.count + rest.count) by omega), if_neg (show ¬ (0 ≤ par ∧ (k : Int) = par) by omega)]
      exact hz' k (by omega) (by omega)
    have hK := bk_itm kids (num + 1) (num : Int) 0 (dep + 1) _ (by omega) hA
    have h0 := hz' num (by omega) (by omega)
    simp only [itm, bk]
    rw [bk_app, itm_len]
    obtain ⟨S1, hS1⟩ : ∃ S1, bk (itm rest (num + 1 + kids.count) par (pl + 1) dep) (num + 1 + kids.count) S = S1 := ⟨_, rfl⟩
    rw [hS1] at hR hK ⊢
    obtain ⟨S2, hS2⟩ : ∃ S2, bk (itm kids (num + 1) (num : Int) 0 (dep + 1)) (num + 1) S1 = S2 := ⟨_, rfl⟩
    rw [hS2] at hK ⊢
    have e1 : S1 num = 0 := by rw [hR num, if_neg (show ¬ (num + 1 + kids.count ≤ num ∧ num < num + 1 + kids.count + rest.count) by omega), if_neg (show ¬ (0 ≤ par ∧ (num : Int) = par) by omega)]; exact h0
    have e2 : S2 num = (kids.count : Int) := by rw [hK num, if_neg (show ¬ (num + 1 ≤ num ∧ num < num + 1 + kids.count) by omega), if_pos (show (0 : Int) ≤ (num : Int) ∧ (num : Int) = (num : Int) by omega), e1]; omega
    simp only [bkS, bkA]
    by_cases hk : k = num
    · subst hk
      rw [if_neg (show ¬ (0 ≤ par ∧ (k : Int) = par) by omega), if_pos rfl, if_pos (show k ≤ k ∧ k < k + (1 + kids.count + rest.count) by omega), e2, Nat.sub_self, szA_head]
      omega
    · have hb : ∀ a b : Int, (if k = num then a else b) = b := fun a b => if_neg hk
      have q := hK k
      have r := hR k
      rw [if_neg (show ¬ (0 ≤ (num : Int) ∧ (k : Int) = (num : Int)) by omega)] at q
      by_cases h1 : num + 1 ≤ k ∧ k < num + 1 + kids.count
      · rw [if_pos h1] at q
        rw [if_neg (show ¬ (0 ≤ par ∧ (k : Int) = par) by omega), hb, q, if_pos (show num ≤ k ∧ k < num + (1 + kids.count + rest.count) by omega), show k - num = k - (num + 1) + 1 by omega, szA_kids _ _ _ _ _ _ _ _ (by omega)]
      · rw [if_neg h1] at q
        by_cases h2 : num + 1 + kids.count ≤ k ∧ k < num + 1 + kids.count + rest.count
        · rw [if_pos h2] at r
          rw [if_neg (show ¬ (0 ≤ par ∧ (k : Int) = par) by omega), hb, q, r, if_pos (show num ≤ k ∧ k < num + (1 + kids.count + rest.count) by omega), show k - num = kids.count + (k - (num + 1 + kids.count)) + 1 by omega, szA_rest]
        · rw [if_neg h2] at r
          rw [if_neg (show ¬ (num ≤ k ∧ k < num + (1 + kids.count + rest.count)) by omega)]
          by_cases h3 : 0 ≤ par ∧ (k : Int) = par
          · rw [if_pos h3] at r
            rw [if_pos h3, if_pos h3, hb, if_pos trivial, q, r, e2]
            omega
          · rw [if_neg h3] at r
            rw [if_neg h3, if_neg h3, hb, q, r]
/-- Parents stand ahead. -/
theorem itm_par : ∀ (f : Forest) (num : Nat) (par : Int) (pl dep : Nat), -1 ≤ par → par < (num : Int) → ∀ (j : Nat) (x : It), (itm f num par pl dep)[j]? = some x → -1 ≤ x.2.1 ∧ x.2.1 < ((num + j : Nat) : Int)
  | .nil, num, par, pl, dep, h0, h1, j, x, h => by simp [itm] at h
  | .cons _ _ _ _ _ kids rest, num, par, pl, dep, h0, h1, j, x, h => by
    simp only [itm] at h
    rcases j with _ | j
    · simp at h; subst h; exact ⟨h0, by simpa using h1⟩
    · rw [List.getElem?_cons_succ] at h
      by_cases hj : j < kids.count
      · rw [List.getElem?_append_left (by rw [itm_len]; exact hj)] at h
        have := itm_par kids (num + 1) (num : Int) 0 (dep + 1) (by omega) (by omega) j x h
        omega
      · rw [List.getElem?_append_right (by rw [itm_len]; omega), itm_len] at h
        have := itm_par rest (num + 1 + kids.count) par (pl + 1) dep h0 (by omega) (j - kids.count) x h
        omega
/-- Items with their sizes, as they lie in a block. -/
def ItZ (l : List It) (S : Nat → Int) (g : Nat) (w : World) : Prop := (∃ cur, Blk w g cur 49) ∧ ∀ k x, l[k]? = some x → w.cell? ⟨g, k * 5, none⟩ = some (.int .i64 x.1) ∧ w.cell? ⟨g, k * 5 + 1, none⟩ = some (.int .i64 x.2.1) ∧ w.cell? ⟨g, k * 5 + 2, none⟩ = some (.int .i64 x.2.2.1) ∧ w.cell? ⟨g, k * 5 + 3, none⟩ = some (.int .i64 x.2.2.2) ∧ w.cell? ⟨g, k * 5 + 4, none⟩ = some (.int .i64 (S k))
theorem flatI_len : ∀ l : List It, (flatI l).length = l.length * 5
  | [] => rfl
  | x :: r => by simp only [flatI, List.length_append, flatI_len r, itL, List.length_cons, List.length_nil]; omega
theorem flatI_get : ∀ (l : List It) (k : Nat) (x : It), l[k]? = some x → ∀ j, j < 5 → (flatI l)[k * 5 + j]? = (itL x)[j]?
  | [], k, x, h, j, hj => by simp at h
  | y :: r, 0, x, h, j, hj => by
    simp at h; subst h
    simp only [flatI, Nat.zero_mul, Nat.zero_add]
    rw [List.getElem?_append_left (by simpa [itL] using hj)]
  | y :: r, k + 1, x, h, j, hj => by
    simp at h
    simp only [flatI]
    rw [List.getElem?_append_right (by simp [itL]; omega), show (k + 1) * 5 + j - (itL y).length = k * 5 + j by simp [itL]; omega]
    exact flatI_get r k x h j hj
theorem itz_of_row {w : World} {base : Nat} {v : Value} {acc : List It} (h : w.ownsRow base 49 5 v acc.length (flatI acc)) (h0 : acc ≠ []) : ∃ g cap, v = .slice (some ⟨g, 0, none⟩) acc.length cap ∧ base ≤ g ∧ acc.length ≤ cap ∧ ItZ acc (fun _ => 0) g w := by
  obtain ⟨hl, h⟩ := h
  rcases h with ⟨_, h⟩ | ⟨g, cap, cur, rfl, h1, h2, h3, h4, h5, h6⟩
  · exact absurd (List.eq_nil_of_length_eq_zero h) h0
  · refine ⟨g, cap, rfl, h1, h3, ⟨cur, h2⟩, fun k x hx => ?_⟩
    have hk : k < acc.length := (List.getElem?_eq_some_iff.1 hx).1
    have hc : ∀ j, j < 5 → w.cell? ⟨g, k * 5 + j, none⟩ = (itL x)[j]? := fun j hj => by
      rw [Joins.cell_of_block h2, ← flatI_get acc k x hx j hj, ← h6, List.getElem?_take, if_pos (by omega)]
      simp
    exact ⟨hc 0 (by decide), hc 1 (by decide), hc 2 (by decide), hc 3 (by decide), hc 4 (by decide)⟩
theorem cell_set_ne {w : World} {g o o' : Nat} {v : Value} (h : o' ≠ o) : (w.setCell ⟨g, o, none⟩ v).cell? ⟨g, o', none⟩ = w.cell? ⟨g, o', none⟩ := World.cell?_setCell_other _ _ _ _ (by intro e; injection e with _ e; exact h (by omega))
theorem cell_set_eq {w : World} {g o : Nat} {u v : Value} (h : w.cell? ⟨g, o, none⟩ = some u) : (w.setCell ⟨g, o, none⟩ v).cell? ⟨g, o, none⟩ = some v := World.cell?_setCell_same _ _ _ h
theorem cell_set_away {w : World} {g g' o o' : Nat} {v : Value} (h : g' ≠ g) : (w.setCell ⟨g, o, none⟩ v).cell? ⟨g', o', none⟩ = w.cell? ⟨g', o', none⟩ := World.cell?_setCell_other _ _ _ _ (by intro e; injection e with e _; exact h (by omega))
theorem ItZ.set {l : List It} {S : Nat → Int} {g : Nat} {w : World} (h : ItZ l S g w) (m : Nat) (hm : m < l.length) (z : Int) : ItZ l (fun k => if k = m then z else S k) g (w.setCell ⟨g, m * 5 + 4, none⟩ (.int .i64 z)) := by
  obtain ⟨⟨cur, hc⟩, h2⟩ := h
  have hx0 := h2 m l[m] (List.getElem?_eq_getElem hm)
  have hsz : m * 5 + 4 < cur.size := by
    have := (hc.cell (m * 5 + 4)).symm.trans hx0.2.2.2.2
    exact (Array.getElem?_eq_some_iff.1 this).1
  refine ⟨⟨_, hc.set (m * 5 + 4) hsz _⟩, fun k x hx => ?_⟩
  obtain ⟨a0, a1, a2, a3, a4⟩ := h2 k x hx
  refine ⟨(cell_set_ne (by omega)).trans a0, (cell_set_ne (by omega)).trans a1, (cell_set_ne (by omega)).trans a2, (cell_set_ne (by omega)).trans a3, ?_⟩
  show (w.setCell _ _).cell? _ = some (Value.int .i64 (if k = m then z else S k))
  by_cases e : k = m
  · subst e
    rw [if_pos rfl]
    exact cell_set_eq a4
  · rw [if_neg e]
    exact (cell_set_ne (by omega)).trans a4
theorem ItZ.congr {l : List It} {S S' : Nat → Int} {g : Nat} {w : World} (h : ItZ l S g w) (e : ∀ k, k < l.length → S k = S' k) : ItZ l S' g w := ⟨h.1, fun k x hx => by rw [← e k (List.getElem?_eq_some_iff.1 hx).1]; exact h.2 k x hx⟩
theorem bkS_ge {S : Nat → Int} (h : ∀ k, 0 ≤ S k) (i : Nat) (p : Int) (k : Nat) : S k ≤ bkS S i p k := by
  have h1 := h k
  have h2 := h i
  unfold bkS bkA
  rw [if_pos rfl]
  repeat' split
  all_goals omega
theorem bk_ge : ∀ (l : List It) (i : Nat) {S : Nat → Int}, (∀ k, 0 ≤ S k) → ∀ k, S k ≤ bk l i S k
  | [], i, S, h, k => Int.le_refl _
  | x :: r, i, S, h, k => by
    have h1 := bk_ge r (i + 1) h
    exact Int.le_trans (h1 k) (bkS_ge (fun j => Int.le_trans (h j) (h1 j)) i x.2.1 k)
theorem szA_le : ∀ (f : Forest) (k : Nat), szA f k ≤ (f.count : Int) ∧ 0 ≤ szA f k
  | .nil, k => by simp [szA, szF]
  | .cons kd sp n ats tx kids rest, k => by
    have hC : (Forest.cons kd sp n ats tx kids rest).count = 1 + kids.count + rest.count := rfl
    rw [hC]
    rcases k with _ | k
    · rw [szA_head]; omega
    · by_cases hk : k < kids.count
      · rw [szA_kids _ _ _ _ _ _ _ _ hk]
        have := szA_le kids k
        omega
      · have := szA_le rest (k - kids.count)
        rw [show k + 1 = kids.count + (k - kids.count) + 1 by omega, szA_rest]
        omega
theorem bk_bound (f : Forest) (m k : Nat) (hm : m ≤ f.count) (hk : k < f.count) : 0 ≤ bk ((itm f 0 (-1) 0 0).drop m) m (fun _ => 0) k ∧ bk ((itm f 0 (-1) 0 0).drop m) m (fun _ => 0) k ≤ (f.count : Int) := by
  have h0 : ∀ k, (0 : Int) ≤ bk ((itm f 0 (-1) 0 0).drop m) m (fun _ => 0) k := fun k => bk_ge _ m (S := fun _ => 0) (fun _ => Int.le_refl _) k
  refine ⟨h0 k, ?_⟩
  have h1 := bk_ge ((itm f 0 (-1) 0 0).take m) 0 h0 k
  have h2 := bk_app ((itm f 0 (-1) 0 0).take m) ((itm f 0 (-1) 0 0).drop m) 0 (fun _ => 0)
  rw [List.take_append_drop, List.length_take, itm_len, Nat.min_eq_left hm, Nat.zero_add] at h2
  rw [← h2, bk_itm f 0 (-1) 0 0 _ (by omega) (fun _ _ _ => rfl), if_pos (show 0 ≤ k ∧ k < 0 + f.count by omega)] at h1
  exact Int.le_trans h1 (szA_le f (k - 0)).1
theorem ItZ.drew {l : List It} {S : Nat → Int} {g : Nat} {w : World} (h : ItZ l S g w) : ItZ l S g w.drew := h
end Go.Proofs.YtbabmkilbbbmoaaDoor
