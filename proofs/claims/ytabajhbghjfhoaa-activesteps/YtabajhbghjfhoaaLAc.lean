/-
  The walk of ActiveCut.
-/
import Derived.Test.YtabajhbghjfhoaaACv
import Derived.Test.YtabajhbghjfhoaaAFo
namespace Go.Proofs.Ytabajhbghjfhoaa
open Go.RowKit
set_option linter.unusedVariables false
set_option linter.unusedSimpArgs false

structure AStp where
  wh : Int
  no : Int
  x : PEnt
  q : Option Addr
  l : Nat
  c : Nat
def st0 : AStp := ⟨0, 0, p0, none, 0, 0⟩
/-- Steps as they lie in memory. -/
def StpAt (g o : Nat) (s : AStp) (W : World) : Prop :=
  W.cell? ⟨g, o, none⟩ = some (.int .i64 s.wh) ∧ W.cell? ⟨g, o + 1, none⟩ = some (.int .i64 s.no) ∧ W.cell? ⟨g, o + 2, none⟩ = some (.bool s.x.mr) ∧ W.cell? ⟨g, o + 3, none⟩ = some (.int .i64 s.x.id) ∧ W.cell? ⟨g, o + 4, none⟩ = some (.string s.x.nm) ∧ W.cell? ⟨g, o + 5, none⟩ = some (.slice s.q s.l s.c) ∧ (s.q = none → s.l = 0 ∧ s.c = 0) ∧ AtsV s.q s.l s.x.ats W
theorem StpAt.below {g o : Nat} {s : AStp} {w w' : World} (h : StpAt g o s w) (hb : Below w.heap.size w w') : StpAt g o s w' :=
  ⟨cell_later hb h.1, cell_later hb h.2.1, cell_later hb h.2.2.1, cell_later hb h.2.2.2.1, cell_later hb h.2.2.2.2.1, cell_later hb h.2.2.2.2.2.1, h.2.2.2.2.2.2.1, h.2.2.2.2.2.2.2.below hb⟩
def CellsS (g o : Nat) (l : List AStp) (w : World) : Prop := ∀ k, k < l.length → StpAt g (o + k * 6) (l.getD k st0) w
theorem updB {w W w' : World} {p : Nat} {v : Value} {P P' : List PEnt} (hb : Below w.heap.size w W) (h : LstP w.heap.size p v P W) (hp : w.heap.size ≤ p) (hu : UpdP w.heap.size p v P' W w') : Below w.heap.size w w' := by
  obtain ⟨L, hs, _⟩ := h
  obtain ⟨v', _, ht, _⟩ := hu
  exact hb.trans (ht.below hb.size hp (fun k hk => (hs.2.1.lt k hk).1))
theorem row_len {w : World} {base size n m c : Nat} {e : TypeId} {q : Option Addr} {xs : List Value} (h : w.ownsRow base e size (.slice q n c) m xs) : n = m := by
  rcases h.2 with ⟨h, h0⟩ | ⟨g, cap, cur, h, _⟩
  · injection h with h1 h2 h3; omega
  · injection h
theorem row_at {w : World} {base size n m c : Nat} {e : TypeId} {q : Option Addr} {xs : List Value} (h : w.ownsRow base e size (.slice q n c) m xs) (h0 : 0 < m) : ∃ g, q = some ⟨g, 0, none⟩ := by
  rcases h.2 with ⟨h, h1⟩ | ⟨g, cap, cur, h, _⟩
  · omega
  · injection h with h1 h2 h3; exact ⟨g, h1⟩
def stopK (zs : List Int) (xm : Bool) (xi : Int) (j : Nat) : Bool := xm || hasK zs xi j
def CutAt (n : Nat) (w : World) (i : Value) (wr : World) : Prop :=
  ∃ (k : Nat) (P : List PEnt) (v : Value), k ≤ n ∧ i = .int .i64 k ∧ P.length ≤ 100 ∧ LstP w.heap.size w.heap.size v P wr ∧ Below w.heap.size w wr

theorem lastP_app (g : PEnt → Bool) (a : List PEnt) (x : PEnt) : lastP g (a ++ [x]) = if g x then (a.length : Int) else lastP g a := by
  unfold lastP
  rw [List.reverse_append, List.reverse_singleton, List.singleton_append, lastRP, List.length_append, List.length_singleton]
  have e : (((a.length + 1 : Nat) : Int) - 1) = (a.length : Int) := by omega
  rw [e]
theorem lastP_spec (g : PEnt → Bool) : ∀ (n : Nat) (P : List PEnt), P.length = n → (∀ k : Nat, k < P.length → lastP g P < (k : Int) → g (P.getD k p0) = false) ∧ (∀ k : Nat, lastP g P = (k : Int) → g (P.getD k p0) = true)
  | 0, P, hn => by
    obtain rfl := List.eq_nil_of_length_eq_zero hn
    exact ⟨fun k hk => by simp at hk, fun k hk => by simp [lastP, lastRP] at hk⟩
  | n + 1, P, hn => by
    have hne : P ≠ [] := by intro e; rw [e] at hn; simp at hn
    obtain ⟨a, x, rfl⟩ : ∃ a x, P = a ++ [x] := ⟨P.dropLast, P.getLast hne, (List.dropLast_concat_getLast _).symm⟩
    have ha : a.length = n := by simpa using hn
    obtain ⟨i1, i2⟩ := lastP_spec g n a ha
    have hx : (a ++ [x]).getD a.length p0 = x := by simp [List.getD]
    have hlt := lastP_lt g a
    have hget : ∀ k, k < a.length → (a ++ [x]).getD k p0 = a.getD k p0 := fun k hk => by simp [List.getD, List.getElem?_append_left hk]
    rw [lastP_app]
    cases hg : g x with
    | true =>
      simp only [if_true]
      refine ⟨fun k hk hl => ?_, fun k hk => ?_⟩
      · simp at hk; omega
      · have : k = a.length := by omega
        rw [this, hx]; exact hg
    | false =>
      simp only [Bool.false_eq_true, if_false]
      refine ⟨fun k hk hl => ?_, fun k hk => ?_⟩
      · by_cases he : k = a.length
        · rw [he, hx]; exact hg
        · rw [hget k (by simp at hk; omega)]; exact i1 k (by simp at hk; omega) hl
      · rw [hget k (by omega)]; exact i2 k hk
/-- Whether one is not to be begun anew. -/
def stopP (zs : List Int) (x : PEnt) : Bool := x.mr || hasZ zs x.id
theorem from_spec (zs : List Int) (P : List PEnt) : (∀ k, k < P.length → fromP zs P ≤ k → stopP zs (P.getD k p0) = false) ∧ (∀ k, k + 1 = fromP zs P → stopP zs (P.getD k p0) = true) := by
  obtain ⟨h1, h2⟩ := lastP_spec (fun x => x.mr || hasZ zs x.id) P.length P rfl
  have hlt := lastP_lt (fun x => x.mr || hasZ zs x.id) P
  unfold fromP stopP
  exact ⟨fun k hk hf => h1 k hk (by omega), fun k hk => h2 k (by omega)⟩

set_option maxHeartbeats 1000000 in
theorem cutlaw_long (q : Option Addr) (n cap : Nat) (qo : Option Addr) (m capo : Nat) (w : World) (h : 90 < n) :
    Calls Try.prog 6 #[.slice q n cap, .slice qo m capo] w fun e w' => e = .returned (.bool true) ∧ Below w.heap.size w w' := by
  have CN := hide (fun w => new_p w.heap.size w (Nat.le_refl _))
  have CC := hide (fun w => four_any w)
  have h1 : (90 : Int) < (n : Int) := by omega
  unfold ptr at *
  go_enter Try.func6, Try.ntmps6
  go_wp2_with fail
  refine (unhide CN _).mono ?_
  rintro e w1 ⟨rfl, _, hb1⟩
  have HB := hide hb1
  clear hb1
  go_wp2_with fail
  refine (unhide CC _).mono ?_
  rintro e w3 ⟨rfl, hb3⟩
  go_wp2
  go_ret
  exact ⟨rfl, tr2 (unhide HB) hb3⟩
set_option maxHeartbeats 1000000 in
theorem cutlaw_open (q : Option Addr) (n cap : Nat) (qo : Option Addr) (m capo : Nat) (w : World) (h : ¬ 90 < n) (hm : 50 < m) :
    Calls Try.prog 6 #[.slice q n cap, .slice qo m capo] w fun e w' => e = .returned (.bool true) ∧ Below w.heap.size w w' := by
  have CN := hide (fun w => new_p w.heap.size w (Nat.le_refl _))
  have CC := hide (fun w => four_any w)
  have h1 : ¬ (90 : Int) < (n : Int) := by omega
  have h2 : (50 : Int) < (m : Int) := by omega
  unfold ptr at *
  go_enter Try.func6, Try.ntmps6
  go_wp2_with fail
  refine (unhide CN _).mono ?_
  rintro e w1 ⟨rfl, _, hb1⟩
  have HB := hide hb1
  clear hb1
  go_wp2_with fail
  refine (unhide CC _).mono ?_
  rintro e w3 ⟨rfl, hb3⟩
  go_wp2
  go_ret
  exact ⟨rfl, tr2 (unhide HB) hb3⟩

set_option maxHeartbeats 20000000 in
set_option maxRecDepth 100000 in
theorem cutlaw_main (q : Option Addr) (n cap : Nat) (ls : List AStp) (qo : Option Addr) (m capo : Nat) (zs : List Int) (w : World) (hn : Hid (ls.length = n)) (h90 : n ≤ 90) (hls : ls = [] ∨ ∃ g o, q = some ⟨g, o, none⟩ ∧ CellsS g o ls w) (h50 : m ≤ 50) (hz : IntsV qo m zs w) :
    Calls Try.prog 6 #[.slice q n cap, .slice qo m capo] w fun e w' => e = .returned (.bool true) ∧ Below w.heap.size w w' := by
  have CN := hide (fun w => new_p w.heap.size w (Nat.le_refl _))
  have CC := hide (fun w => four_any w)
  have CM := hide (fun v P W h hb => mark_p w.heap.size w.heap.size v P W h hb)
  have CAd := hide (fun v P x q n c W h hb hN hq ha hs => add_p w.heap.size w.heap.size v P x q n c W h hb hN hq ha hs)
  have CAl := hide (fun v P W h hN => all_p w.heap.size w.heap.size v P W h hN)
  have CCu := hide (fun v P W h hk hN => cut_p w.heap.size w.heap.size v qo m capo zs P W h hk hN)
  have HC := hide hls
  have HZ := hide hz
  have h1 : ¬ (90 : Int) < (n : Int) := by omega
  have h2 : ¬ (50 : Int) < (m : Int) := by omega
  clear hls hz
  unfold ptr at *
  go_enter Try.func6, Try.ntmps6
  go_wp2_with fail
  refine (unhide CN _).mono ?_
  rintro e w2 ⟨rfl, hs2, hb2⟩
  have HAT : Hid (CutAt n w (.int .i64 0) w2) := hide ⟨0, [], _, Nat.zero_le _, rfl, by simp, hs2, hb2⟩
  clear hs2 hb2
  go_wp2
  go_loopw [36] (fun i wr => CutAt n w i wr) (fun i _ => n - (intOf i).toNat)
  case atStart => exact unhide HAT
  case round =>
    clear HAT
    obtain ⟨k, P, v, hk, rfl, hP, hL, hb⟩ := hrel
    have HB := hide hb
    have HL := hide hL
    have hsz := hb.size
    by_cases hlk : k < n
    · have hlti : (k : Int) < (n : Int) := by omega
      rcases unhide HC with hnil | ⟨g, o, hq, hcs⟩
      · have := unhide hn; rw [hnil] at this; simp at this; omega
      subst hq
      have hkl : k < ls.length := by rw [unhide hn]; exact hlk
      have hatw := (hcs k hkl).2.2.2.2.2.2.2
      obtain ⟨c0, c1, c2, c3, c4, c5, hqn, hat⟩ := (hcs k hkl).below hb
      generalize ls.getD k st0 = y at *
      obtain ⟨wh, no, ⟨xm, xi, xn, ats⟩, xq, xl, xc⟩ := y
      dsimp only at *
      have al : Below wr.heap.size wr (wr.alloc (Obj.cells #[.int .i64 wh, .int .i64 no, .bool xm, .int .i64 xi, .string xn, .slice xq xl xc] 60)) := (Below.refl _ _).alloc (Nat.le_refl _) _
      have HLa := hide (hL.later al)
      have HBa := hide (tr2 hb al)
      have hza := (tr2 hb al).size
      have CM1 := hide (unhide CM v P _ (unhide HLa) hza)
      have hsafe : ∀ a, xq = some a → 0 < xl → a.block ≠ w.heap.size ∧ some a.block ≠ v.ownBlock := fun a ha h0 => by
        have hlt := hatw.lt ha h0
        obtain ⟨L, hs, _⟩ := hL
        exact ⟨by omega, fun e => by have := (hs.2.1.lt _ e.symm).1; omega⟩
      have CA1 := hide (unhide CAd v P ⟨xm, xi, xn, ats⟩ xq xl xc _ (unhide HLa) hza hP hqn (hat.below al) hsafe)
      have hPl := hide (addP_le ⟨xm, xi, xn, ats⟩ P hP)
      clear hL hb hcs hkl hatw hqn hat hsafe al CM CAd
      dsimp only at CA1
      by_cases hw5 : wh = 5
      · subst hw5
        go_wp2_with fail
        refine (unhide CM1).mono ?_
        rintro e w3 ⟨rfl, hu⟩
        have HB3 := hide (updB (unhide HBa) (unhide HLa) (Nat.le_refl _) hu)
        obtain ⟨v', hL', _, _⟩ := hu
        have HL3 := hide hL'
        have hP3 : Hid ((if 100 ≤ P.length then P else P ++ [pMk]).length ≤ 100) := hide (by
          split
          · exact hP
          · rw [List.length_append, List.length_singleton]; omega)
        clear hL'
        go_wp2
        go_roundw
        case rel => exact ⟨k + 1, _, v', by omega, by go_num, unhide hP3, unhide HL3, unhide HB3⟩
        case measure => simp [intOf]; omega
      · have hw6 : (wh == 5) = false := beq_eq_false_iff_ne.2 hw5
        go_wp2_with fail
        refine (unhide CA1).mono ?_
        rintro e w3 ⟨rfl, hu⟩
        have HB3 := hide (updB (unhide HBa) (unhide HLa) (Nat.le_refl _) hu)
        obtain ⟨v', hL', _, _⟩ := hu
        have HL3 := hide hL'
        clear hL'
        go_wp2
        go_roundw
        case rel => exact ⟨k + 1, _, v', by omega, by go_num, unhide hPl, unhide HL3, unhide HB3⟩
        case measure => simp [intOf]; omega
    · have hkn : n = k := by omega
      subst hkn
      have hnl : ¬ (n : Int) < (n : Int) := by omega
      have hfs := from_spec zs P
      have hfl := fromP_le zs P
      have CA1 := hide (unhide CAl v P _ (unhide HL) (by omega))
      have CU1 := hide (fun W h hk => unhide CCu v P W h hk (by omega))
      clear hL hb hlk CAl CCu CM CAd
      go_wp2_with fail
      refine (unhide CA1).mono ?_
      rintro e w3 ⟨ua, L2, rfl, hrow, hrel2, hb3⟩
      have HB3 := hide (tr2 (unhide HB) hb3)
      have HL3 := hide ((unhide HL).later hb3)
      obtain ⟨qa, na, ca, rfl⟩ := slice_of hrow
      have HRow := hide hrow
      have HRel := hide hrel2
      clear hrow hrel2 hb3
      go_wp2_with fail
      refine (unhide CU1 _ (unhide HL3) ((unhide HZ).below (unhide HB3))).mono ?_
      rintro e w4 ⟨uc, rfl, hcr, hb4⟩
      obtain ⟨qc, nc, cc, rfl⟩ := slice_of hcr
      have HCr := hide hcr
      have HRow4 := hide (ownsRow_below (unhide HRow) hb4)
      have HB4 := hide (tr2 (unhide HB3) hb4)
      clear hcr hb4
      have hna := row_len (unhide HRow)
      have hnc := row_len (unhide HCr)
      subst hna hnc
      obtain ⟨t, ht⟩ : ∃ t, P.length = t := ⟨_, rfl⟩
      obtain ⟨f, hf⟩ : ∃ f, fromP zs P = f := ⟨_, rfl⟩
      have HT := hide ht
      rw [ht, hf] at hfs
      rw [ht, hf] at hfl
      rw [ht] at hP
      have HFS := hide hfs
      have HLZ : Hid (hasZ zs = fun z => hasK zs z zs.length) := hide rfl
      have HZL : Hid (m = zs.length) := hide (unhide HZ).1
      have HL2 : Hid (L2.length = t) := hide (by rw [← ht]; exact (unhide HRel).len)
      have HCc : Hid (∀ W, Below w4.heap.size w4 W → ∀ i, i < t → f ≤ i → ∃ gc, qc = some ⟨gc, 0, none⟩ ∧ W.cell? ⟨gc, i - f, none⟩ = some (.int .i64 (i : Int))) := hide fun W hW i hi hfi => by
        have hcr := unhide HCr
        rw [ht, hf] at hcr
        obtain ⟨gc, hgc⟩ := row_at hcr (by omega)
        subst hgc
        refine ⟨gc, rfl, cell_later hW ?_⟩
        have := hcr.cells (g := gc) rfl (i - f) _ (upFrom_at f (t - f) (i - f) (by omega))
        rw [Addr.add_lit, Nat.zero_add, show f + (i - f) = i by omega] at this
        exact this
      have HAc : Hid (∀ W, Below w4.heap.size w4 W → ∀ i, i < t → ∃ ga, qa = some ⟨ga, 0, none⟩ ∧ W.cell? ⟨ga, i * 4, none⟩ = some (.bool (L2.getD i e0).mr) ∧ W.cell? ⟨ga, i * 4 + 1, none⟩ = some (.int .i64 (L2.getD i e0).id) ∧ W.cell? ⟨ga, i * 4 + 2, none⟩ = some (.string (L2.getD i e0).nm) ∧ W.cell? ⟨ga, i * 4 + 3, none⟩ = some (.slice (L2.getD i e0).q (L2.getD i e0).n (L2.getD i e0).c)) := hide fun W hW i hi => by
        have hro := unhide HRow4
        obtain ⟨ga, hga⟩ := row_at hro (by omega)
        subst hga
        rw [← (unhide HRel).len] at hro
        have := (cells4_of_row hro).below hW i (by rw [unhide HL2]; exact hi)
        rw [Nat.zero_add] at this
        exact ⟨ga, rfl, this⟩
      have HSt : Hid (∀ i, i < t → stopP zs (P.getD i p0) = stopK zs (L2.getD i e0).mr (L2.getD i e0).id m) := hide fun i hi => by
        have hq := (unhide HRel).get i (by rw [unhide HL2]; exact hi)
        unfold stopP stopK hasZ
        rw [hq.1, hq.2.1, unhide HZL]
      rw [ht, hf] at HCr
      rw [ht] at HRow HRow4
      rw [ht, hf]
      have hw1 : IntKind.i64.wrap ((t : Int) - ((t - f : Nat) : Int)) = (f : Int) := by rw [IntKind.wrap_i64]; omega
      have hw2 : (t : Int) - ((t - f : Nat) : Int) = (f : Int) := by omega
      have hw3 : IntKind.i64.wrap ((f : Int) - 1) = (f : Int) - 1 := by rw [IntKind.wrap_i64]; omega
      clear hfs ht hf HRow HRow4 HCr HRel HL3 HB3 HL HB
      generalize hd : t - f = d at *
      go_wp2
      try rw [hw1]
      go_loopw [62] (fun i wr => ∃ k : Nat, k ≤ t ∧ i = .int .i64 k ∧ Below w4.heap.size w4 wr) (fun i _ => t - (intOf i).toNat)
      case atStart => exact ⟨0, Nat.zero_le _, rfl, Below.refl _ _⟩
      case round =>
        obtain ⟨i, hi, rfl, hbi⟩ := hrel
        have HBi := hide hbi
        by_cases hit : i < t
        · have hiti : (i : Int) < (t : Int) := by omega
          obtain ⟨ga, hga, a0, a1, a2, a3⟩ := unhide HAc wr hbi i hit
          subst hga
          have HS1 := hide (unhide HSt i hit)
          have HF1 := hide ((unhide HFS).1 i hit)
          have HF2 := hide ((unhide HFS).2 i)
          have HC1 := hide (fun W hW => unhide HCc W hW i hit)
          generalize L2.getD i e0 = e at *
          obtain ⟨xm, xi, xn, xq, xl, xc⟩ := e
          dsimp only at *
          generalize P.getD i p0 = px at *
          have alx : Below wr.heap.size wr (wr.alloc (Obj.cells #[.bool xm, .int .i64 xi, .string xn, .slice xq xl xc] 58)) := (Below.refl _ _).alloc (Nat.le_refl _) _
          have kx := Blk.new wr #[.bool xm, .int .i64 xi, .string xn, .slice xq xl xc] 58
          have HBx := hide (tr2 hbi alx)
          clear hbi alx
          go_wp2
          generalize wr.heap.size = bx at *
          generalize (wr.alloc (Obj.cells #[.bool xm, .int .i64 xi, .string xn, .slice xq xl xc] 58)) = W1 at *
          have e0' : W1.cell? ⟨bx, 0, none⟩ = some (.bool xm) := kx.cell 0
          have e1' : W1.cell? ⟨bx, 1, none⟩ = some (.int .i64 xi) := kx.cell 1
          clear kx a0 a1 a2 a3
          have HZ1 := hide ((unhide HZ).below (tr2 (unhide HB4) (unhide HBx)))
          go_loopw [13, 71] (fun b j wr => ∃ jj : Nat, jj ≤ m ∧ j = .int .i64 jj ∧ b = .bool (stopK zs xm xi jj) ∧ wr = W1) (fun _ j _ => m - (intOf j).toNat)
          case atStart => exact ⟨0, Nat.zero_le _, rfl, by unfold stopK hasK; rw [Bool.or_false], rfl⟩
          case round =>
            obtain ⟨jj, hj, rfl, rfl, hwj⟩ := hrel
            subst hwj
            by_cases hjm : jj < m
            · have hjmi : (jj : Int) < (m : Int) := by omega
              obtain ⟨z1, z2, z3⟩ := unhide HZ1
              rcases z3 with z3 | ⟨gz, oz, z4, z5⟩
              · omega
              subst z4
              have cz := z5 jj (by omega)
              have HK : Hid (stopK zs xm xi (jj + 1) = (stopK zs xm xi jj || (xi == zs.getD jj 0))) := hide (by unfold stopK; rw [show hasK zs xi (jj + 1) = (hasK zs xi jj || (xi == zs.getD jj 0)) from rfl, Bool.or_assoc])
              have HKT : Hid (xm = true → stopK zs xm xi (jj + 1) = true ∧ stopK zs xm xi jj = true) := hide (fun h => by unfold stopK; rw [h, Bool.true_or, Bool.true_or]; exact ⟨rfl, rfl⟩)
              generalize zs.getD jj 0 = y at *
              clear z1 z2 z5
              cases hxm : xm with
              | true =>
                obtain ⟨k1, k2⟩ := unhide HKT hxm
                rw [hxm] at k1 k2 e0'
                rw [k2]
                have K1 := hide k1
                clear k1 k2 HK HKT
                go_wp2
                go_roundw
                case rel => exact ⟨jj + 1, by omega, by go_num, by rw [unhide K1], by simp⟩
                case measure => simp [intOf]; omega
              | false =>
                rw [hxm] at HK e0'
                generalize hB : stopK zs false xi jj = B at *
                cases B with
                | true =>
                  have K1 := hide (unhide HK)
                  clear HK HKT
                  go_wp2
                  go_roundw
                  case rel => exact ⟨jj + 1, by omega, by go_num, by rw [unhide K1]; rfl, by simp⟩
                  case measure => simp [intOf]; omega
                | false =>
                  cases hy : (xi == y) with
                  | true =>
                    have K1 := hide (unhide HK)
                    rw [hy] at K1
                    clear HK HKT
                    go_wp2
                    go_roundw
                    case rel => exact ⟨jj + 1, by omega, by go_num, by rw [unhide K1]; rfl, by simp⟩
                    case measure => simp [intOf]; omega
                  | false =>
                    have K1 := hide (unhide HK)
                    rw [hy] at K1
                    clear HK HKT
                    go_wp2
                    go_roundw
                    case rel => exact ⟨jj + 1, by omega, by go_num, by rw [unhide K1]; rfl, by simp⟩
                    case measure => simp [intOf]; omega
            · have hjm2 : jj = m := by omega
              have hjmi : ¬ (jj : Int) < (m : Int) := by omega
              rw [hjm2, ← unhide HS1]
              clear hjm hjm2
              by_cases hfi : f ≤ i
              · have hstop := unhide HF1 hfi
                rw [hstop]
                obtain ⟨gc, hgc, cc1⟩ := unhide HC1 _ (unhide HBx) hfi
                subst hgc
                have q1 : (f : Int) ≤ (i : Int) := by omega
                have q2 : (i : Int) - (f : Int) = ((i - f : Nat) : Int) := by omega
                have q3 : IntKind.i64.wrap ((i : Int) - (f : Int)) = ((i - f : Nat) : Int) := by rw [IntKind.wrap_i64]; omega
                have q4 : ((i - f : Nat) : Int) < (d : Int) := by omega
                have q5 : (0 : Int) ≤ ((i - f : Nat) : Int) := by omega
                have q6 : ((i : Int) == (i : Int)) = true := by simp
                have q7 : ((i : Int) == (f : Int) - 1) = false := beq_eq_false_iff_ne.2 (by omega)
                have q8 : ¬ (i : Int) = (f : Int) - 1 := by omega
                clear hfi hstop HF1 HF2 HC1
                generalize i - f = r at *
                go_wp2
                go_roundw
                case rel => exact ⟨i + 1, by omega, by go_num, unhide HBx⟩
                case measure => simp [intOf]; omega
              · have q1 : ¬ (f : Int) ≤ (i : Int) := by omega
                by_cases hfe : i + 1 = f
                · have hstop := unhide HF2 hfe
                  rw [hstop]
                  have q7 : ((i : Int) == (f : Int) - 1) = true := by rw [show (f : Int) - 1 = (i : Int) by omega]; simp
                  have q9 : (i : Int) = (f : Int) - 1 := by omega
                  clear hfi hstop HF1 HF2 HC1 q9
                  go_wp2
                  go_roundw
                  case rel => exact ⟨i + 1, by omega, by go_num, unhide HBx⟩
                  case measure => simp [intOf]; omega
                · have q7 : ((i : Int) == (f : Int) - 1) = false := beq_eq_false_iff_ne.2 (by omega)
                  have q8 : ¬ (i : Int) = (f : Int) - 1 := by omega
                  clear HF1 HF2 HC1
                  generalize stopP zs px = B at *
                  go_wp2
                  go_roundw
                  case rel => exact ⟨i + 1, by omega, by go_num, unhide HBx⟩
                  case measure => simp [intOf]; omega
        · have hit2 : ¬ (i : Int) < (t : Int) := by omega
          have hf0 : (0 : Int) ≤ (f : Int) := by omega
          have hBf := hide (tr2 (unhide HB4) hbi)
          clear hbi
          go_wp2_with fail
          refine (unhide CC _).mono ?_
          rintro e w9 ⟨rfl, hb9⟩
          go_wp2
          go_ret
          exact ⟨rfl, tr2 (unhide hBf) hb9⟩
theorem activeCut_walk (q : Option Addr) (n cap : Nat) (ls : List AStp) (qo : Option Addr) (m capo : Nat) (zs : List Int) (w : World) (hn : ls.length = n) (hls : ls = [] ∨ ∃ g o, q = some ⟨g, o, none⟩ ∧ CellsS g o ls w) (hz : m ≤ 50 → IntsV qo m zs w) :
    Calls Try.prog 6 #[.slice q n cap, .slice qo m capo] w fun e w' => e = .returned (.bool true) ∧ Below w.heap.size w w' := by
  by_cases h : 90 < n
  · exact cutlaw_long q n cap qo m capo w h
  · by_cases h2 : 50 < m
    · exact cutlaw_open q n cap qo m capo w h h2
    · exact cutlaw_main q n cap ls qo m capo zs w (hide hn) (by omega) hls (by omega) (hz (by omega))
end Go.Proofs.Ytabajhbghjfhoaa
