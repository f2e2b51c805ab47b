/-
  Several texts in one: what the functions of the program and of the document's answer do.
-/
import Derived.Test.YtfdhmhdemfbfeaaGreatDoorMgAW
import Derived.Deep.LoopGhost
import Derived.Laws.EntriesVeiled
import Derived.Laws.AppendOwn
import Derived.Test.YtfdhmhdemfbfeaaGreatDoorWRe
import Derived.Deep.Cut

/-
  What 'tree.walk' does, whatever it hands each node to.
-/
namespace Go.Proofs.YtfdhmhdemfbfeaaGreatDoor
open Go.RowKit
set_option linter.unusedVariables false

/-- A node, and how deep it lies. -/
structure Item where
  k : Int
  sp : Int
  n : ByteArray
  ats : List (ByteArray × ByteArray)
  tx : ByteArray
  kids : Forest
  d : Nat
/-- All nodes in their order, each ahead of its kids. -/
def items : Forest → Nat → List Item
  | .nil, _ => []
  | .cons k sp n ats tx kids rest, d => ⟨k, sp, n, ats, tx, kids, d⟩ :: (items kids (d + 1) ++ items rest d)
theorem items_len : ∀ (f : Forest) (d : Nat), (items f d).length = f.count
  | .nil, d => rfl
  | .cons k sp n ats tx kids rest, d => by
    show (items kids (d + 1) ++ items rest d).length + 1 = 1 + kids.count + rest.count
    rw [List.length_append, items_len kids, items_len rest]; omega
def todo : List Forest → List Item
  | [] => []
  | f :: st => items f (st.length + 1) ++ todo st
/-- What is told of nodes, one behind the other, until it is enough. -/
def tell {σ : Type} (stp : σ → Item → σ × Bool) : σ → List Item → σ
  | s, [] => s
  | s, it :: r => if (stp s it).2 = true then tell stp (stp s it).1 r else (stp s it).1

abbrev Entry := Forest × Option Addr × Nat
def Entry.val (e : Entry) : Value := .slice e.2.1 e.1.len e.2.2
def rowOf (st : List Entry) : List Value := (st.map Entry.val).reverse
theorem rowOf_cons (e : Entry) (st : List Entry) : rowOf (e :: st) = rowOf st ++ [e.val] := by simp [rowOf]
theorem rowOf_len (st : List Entry) : (rowOf st).length = st.length := by simp [rowOf]
/-- The row's last value, where it lies, and the row without it, or with another one in its place. -/
theorem row_last {w : World} {base : Nat} {e : TypeId} {v x : Value} {n : Nat} {xs : List Value} (h : w.ownsRow base e 1 v (n + 1) (xs ++ [x])) (hl : xs.length = n) :
    ∃ b cap, v = .slice (some ⟨b, 0, none⟩) (n + 1) cap ∧ base ≤ b ∧ n + 1 ≤ cap ∧ w.cell? ⟨b, n, none⟩ = some x ∧ w.frozen? ⟨b, n, none⟩ = false ∧ b < w.heap.size ∧
      w.ownsRow base e 1 (.slice (some ⟨b, 0, none⟩) n cap) n xs ∧ ∀ y, (w.setCell ⟨b, n, none⟩ y).ownsRow base e 1 (.slice (some ⟨b, 0, none⟩) (n + 1) cap) (n + 1) (xs ++ [y]) := by
  obtain ⟨hlen, h⟩ := h
  rcases h with ⟨_, h0⟩ | ⟨b, cap, cur, rfl, h1, h2, h3, h4, h5, h6⟩
  · omega
  have hsz : n < cur.size := by omega
  have hx : cur[n]? = some x := by
    have := congrArg (fun l => l[n]?) h6
    simp only [Nat.mul_one] at this
    rw [List.getElem?_take, if_pos (by omega), List.getElem?_append_right (by omega), hl, Nat.sub_self] at this
    simpa using this
  have hc : w.cell? ⟨b, n, none⟩ = some x := (Joins.cell_of_block h2 n).trans hx
  have hblt : b < w.heap.size := World.block_lt_of_cell? w _ hc
  refine ⟨b, cap, rfl, h1, h3, hc, ?_, hblt, ⟨by omega, Or.inr ⟨b, cap, cur, rfl, h1, h2, by omega, h4, h5, ?_⟩⟩, fun y => ⟨by simp; omega, Or.inr ⟨b, cap, cur.set n y hsz, rfl, h1, ?_, h3, h4, by rw [Array.size_set]; exact h5, ?_⟩⟩⟩
  · have : Blk w b cur e := h2
    exact this.frozen n
  · have := congrArg (fun l => l.take n) h6
    simp only [Nat.mul_one] at this ⊢
    rw [List.take_take, Nat.min_eq_left (by omega), List.take_left' hl] at this
    exact this
  · have : Blk w b cur e := h2
    exact this.set n hsz y
  · simp only [Nat.mul_one] at h6 ⊢
    rw [Array.toList_set, List.take_set, h6, List.set_append_right _ _ (by omega), hl, Nat.sub_self]
    rfl
end Go.Proofs.YtfdhmhdemfbfeaaGreatDoor

/-
  'policy.find' under judge.refuses, and 'policy.Allows'.
-/
namespace Go.Proofs.YtfdhmhdemfbfeaaGreatDoor
open Go.RowKit
set_option linter.unusedVariables false
set_option linter.unusedSimpArgs false

theorem wslice_n {w : World} {base : Nat} {e : TypeId} {size : Nat} {v : Value} {n : Nat} {xs : List Value} (h : w.ownsRow base e size v n xs) : ∃ a cap, v = .slice a n cap := by
  rcases h.2 with ⟨h, h0⟩ | ⟨g, cap, cur, h, _⟩
  · exact ⟨none, 0, by rw [h, h0]⟩
  · exact ⟨_, _, h⟩
theorem wlit1 {X : World} {v : Value} {t : TypeId} {j : Nat} {u : Value} (h : [v][j]? = some u) : (X.alloc (.cells #[v] t)).cell? ((⟨X.heap.size, 0, none⟩ : Addr).add j) = some u := by
  have e : (⟨X.heap.size, 0, none⟩ : Addr).add j = ⟨X.heap.size, 0 + j, none⟩ := by unfold Addr.add; split <;> simp_all
  rw [e, Nat.zero_add]
  exact ((Blk.new X #[v] t).cell j).trans (by simpa using h)
def wcnt : List Entry → Nat
  | [] => 0
  | e :: st => e.1.count + wcnt st
def WStackOk (w0 : World) (st : List Entry) : Prop := ∀ e ∈ st, Fo e.2.1 e.1 w0 ∧ e.1.len ≤ e.2.2
/-- Is a node not allowed? -/
def refI (p : PPol) (it : Item) : Bool := refN p it.k it.sp it.n it.ats
/-- Its attributes are not too great. -/
def OkI (it : Item) : Prop := it.ats.length ≤ 1000000 ∧ ∀ x ∈ it.ats, x.2.size ≤ 100000
def FindSaid (w0 : World) (r : Option Item) (v : Value) : Prop :=
  match r with
  | none => v = .pointer none
  | some it => ∃ g o rest, v = .pointer (some ⟨g, o, none⟩) ∧ Lies (.cons it.k it.sp it.n it.ats it.tx it.kids rest) g o w0
def FindAt (p : PPol) (w0 : World) (B1 : Nat) (fin : Option Item) (gk : Nat) (left : Value) (wr : World) : Prop :=
  ∃ (st : List Entry), wcnt st ≤ 1000000 ∧ st.length + wcnt st ≤ 1000001 ∧ 2 * wcnt st + st.length = gk ∧ WStackOk w0 st ∧ wr.ownsRow B1 26 1 left st.length (rowOf st) ∧ (todo (st.map (·.1))).find? (refI p) = fin ∧ (∀ it ∈ todo (st.map (·.1)), OkI it) ∧ Below w0.heap.size w0 wr ∧ B1 ≤ wr.heap.size
theorem winfoNodes0 : (Tryz.prog.info? 26).map (fun i => (i.zero, i.size, i.bytes)) = some (some (.slice none 0 0), 1, 24) := by kernel_rfl

set_option maxHeartbeats 8000000 in
set_option maxRecDepth 100000 in
theorem find_any (vj : Value) (p : PPol) (f : Forest) (q : Option Addr) (cap : Nat) (w : World) (hv : PolV w vj p) (hf : Fo q f w) (hcap : f.len ≤ cap) (hc : f.count ≤ 1000000) (hok : ∀ it ∈ items f 1, OkI it) :
    Calls Tryz.prog 17 #[.slice q f.len cap, .func (.func 18) #[vj] #[]] w fun e w' => (∃ v, e = .returned v ∧ FindSaid w ((items f 1).find? (refI p)) v) ∧ Below w.heap.size w w' := by
  have HC := hide (fun k sp n ats tx kids rest g o W (hW : Below w.heap.size w W) hl hal hz => refuses_any vj p k sp n ats tx kids rest g o W (hv.below hW) (Lies.below hW _ g o hl) hal hz)
  obtain ⟨i0, hi0, hi1, hi2, hi3⟩ := info_parts winfoNodes0
  have hb0 := (Below.refl w.heap.size w).alloc (Nat.le_refl _) (Obj.cells #[.slice q f.len cap] 26)
  have hrow0 : (w.alloc (Obj.cells #[.slice q f.len cap] 26)).ownsRow w.heap.size 26 1 (.slice (some ⟨w.heap.size, 0, none⟩) 1 1) 1 [.slice q f.len cap] :=
    ⟨rfl, Or.inr ⟨w.heap.size, 1, #[.slice q f.len cap], rfl, Nat.le_refl _, Blk.new w _ _, Nat.le_refl _, by unfold maxLen; omega, rfl, rfl⟩⟩
  have HAT : Hid (FindAt p w w.heap.size ((items f 1).find? (refI p)) (2 * f.count + 1) (.slice (some ⟨w.heap.size, 0, none⟩) 1 1) (w.alloc (Obj.cells #[.slice q f.len cap] 26))) := hide ⟨[(f, q, cap)], by simpa [wcnt] using hc, by simp [wcnt]; omega, by simp [wcnt], fun e he => by rw [List.mem_singleton.1 he]; exact ⟨hf, hcap⟩, hrow0, by simp [todo], by simpa [todo] using hok, hb0, by simp⟩
  clear hv hrow0 hf hok hb0
  go_enter Tryz.func17, Tryz.ntmps17
  go_wp2
  go_loopg [5] (2 * f.count + 1) (fun gk left wr => FindAt p w w.heap.size ((items f 1).find? (refI p)) gk left wr)
  case atStart => exact unhide HAT
  case round =>
    clear HAT
    obtain ⟨st, hc1, hc2, hgk, hok, hrow, htl, hit, hbw, hsz⟩ := hrel
    match st, hc1, hc2, hgk, hok, hrow, htl, hit with
    | [], hc1, hc2, hgk, hok, hrow, htl, hit =>
      obtain ⟨a4, cap4, rfl⟩ := wslice_n hrow
      have HF : Hid (none = (items f 1).find? (refI p)) := hide htl
      have HX := hide hbw
      simp only [List.length_nil]
      clear htl hok hrow hbw hit
      go_wp2
      go_ret
      exact ⟨⟨_, rfl, by rw [← unhide HF]; rfl⟩, unhide HX⟩
    | (fo, qe, ce) :: st, hc1, hc2, hgk, hok, hrow, htl, hit =>
      rw [rowOf_cons] at hrow
      obtain ⟨b, capb, rfl, hbb, hcb, c0, cf0, hblt, hpop, hset⟩ := row_last hrow (rowOf_len st)
      have hoke := hok (fo, qe, ce) (List.mem_cons_self ..)
      have HOK := hide (show WStackOk w st from fun e he => hok e (List.mem_cons_of_mem _ he))
      have hln : (st.length : Int) + 1 ≤ 1000001 := by simp at hc2; omega
      have hcbi : (st.length : Int) + 1 ≤ (capb : Int) := by omega
      cases fo with
      | nil =>
        have HT : Hid ((todo (st.map (·.1))).find? (refI p) = (items f 1).find? (refI p)) := hide htl
        have HI : Hid (∀ it ∈ todo (st.map (·.1)), OkI it) := hide hit
        have HX := hide (And.intro hbw (And.intro hsz hpop))
        have hg' : 2 * wcnt st + st.length < gk := by simp [wcnt, Forest.count] at hgk; omega
        have hc1' : wcnt st ≤ 1000000 := by simp [wcnt, Forest.count] at hc1; omega
        have hc2' : st.length + wcnt st ≤ 1000001 := by simp [wcnt, Forest.count] at hc2; omega
        simp only [Entry.val, Forest.len] at c0
        clear htl hok hrow hbw hset hpop hoke hgk hc1 hc2 hit
        go_wp2
        go_roundg (2 * wcnt st + st.length)
        case measure => exact hg'
        case rel => exact ⟨st, hc1', hc2', rfl, unhide HOK, (unhide HX).2.2, unhide HT, unhide HI, (unhide HX).1, (unhide HX).2.1⟩
      | cons k sp n ats tx kids rest =>
        obtain ⟨hfo, hce⟩ := hoke
        rcases hfo with h | ⟨g, o, hq, hl⟩
        · cases h
        have hq' : qe = some ⟨g, o, none⟩ := hq
        subst hq'
        have hlr := hl.2
        have hll := hl
        obtain ⟨⟨_, _, _, _, _, ⟨qk, ck, l5, hck, hfk⟩⟩, _⟩ := hl
        have hce' : rest.len + 1 ≤ ce := hce
        have hcei : (rest.len : Int) + 1 ≤ (ce : Int) := by omega
        have hrl : (rest.len : Int) + 1 ≤ 1000001 := by
          have := rest.len_count
          simp [wcnt, Forest.count] at hc1
          omega
        have hto : todo ((Forest.cons k sp n ats tx kids rest) :: st.map (·.1)) = ⟨k, sp, n, ats, tx, kids, st.length + 1⟩ :: (items kids (st.length + 1 + 1) ++ (items rest (st.length + 1) ++ todo (st.map (·.1)))) := by
          show items (Forest.cons k sp n ats tx kids rest) ((st.map (·.1)).length + 1) ++ todo (st.map (·.1)) = _
          rw [List.length_map]
          show _ :: (items kids (st.length + 1 + 1) ++ items rest (st.length + 1)) ++ todo (st.map (·.1)) = _
          simp
        have htl' := htl
        rw [show (((Forest.cons k sp n ats tx kids rest, (some ⟨g, o, none⟩ : Option Addr), ce) :: st).map (·.1)) = Forest.cons k sp n ats tx kids rest :: st.map (·.1) from rfl, hto] at htl' hit
        have hok0 := hit ⟨k, sp, n, ats, tx, kids, st.length + 1⟩ (List.mem_cons_self ..)
        simp only [Entry.val, Forest.len] at c0
        have CC := hide (unhide HC k sp n ats tx kids rest g o wr hbw hll hok0.1 hok0.2)
        have e1 : ((rest.len : Int) + 1 == 0) = false := beq_eq_false_iff_ne.2 (by omega)
        have HX := hide (And.intro hbw (And.intro hsz (And.intro hc1 (And.intro hc2 (And.intro hgk htl')))))
        have HIT := hide hit
        have HKD := hide (And.intro hll (And.intro hlr (And.intro l5 (And.intro hck hfk))))
        have HRW := hide hrow
        clear hok hrow hpop hce hset hbw hsz hc1 hc2 hgk htl htl' hll hlr l5 hck hfk hce' hit hto hok0
        have HRN : Hid (rest.len = rest.len) := hide rfl
        obtain ⟨rl, hrlq⟩ : ∃ rl, rest.len = rl := ⟨_, rfl⟩
        obtain ⟨sl, hslq⟩ : ∃ sl, st.length = sl := ⟨_, rfl⟩
        have HR0 : Hid (wr.ownsRow w.heap.size 26 1 (.slice (some ⟨b, 0, none⟩) (st.length + 1) capb) (st.length + 1) (rowOf st ++ [.slice (some ⟨g, o, none⟩) (rest.len + 1) ce])) := HRW
        clear HRW
        rw [hrlq] at c0 hcei hrl e1 HR0
        rw [hslq] at c0 cf0 hln hcbi hcb HR0
        rw [hslq]
        have HQ := hide (And.intro hrlq hslq)
        have HRL : Hid ((rowOf st).length = sl) := hide (by rw [rowOf_len, hslq])
        clear hrlq hslq HRN
        have j1 : (1 : Int) ≤ (rl : Int) + 1 := by omega
        have j2 : (0 : Int) < (rl : Int) + 1 := by omega
        cases hrf : refN p k sp n ats with
        | true =>
          rw [hrf] at CC
          have HFN : Hid (some ⟨k, sp, n, ats, tx, kids, sl + 1⟩ = (items f 1).find? (refI p)) := hide (by
            have h1 := (unhide HX).2.2.2.2.2
            have h3 : refI p ⟨k, sp, n, ats, tx, kids, st.length + 1⟩ = true := hrf
            rw [List.find?_cons_of_pos h3, (unhide HQ).2] at h1
            exact h1)
          clear hrf
          go_wp2_with fail
          refine (unhide CC).mono ?_
          rintro e3 W3 ⟨rfl, hb3⟩
          have HY := hide (tr2 (unhide HX).1 hb3)
          go_wp2
          go_ret
          exact ⟨⟨_, rfl, by rw [← unhide HFN]; exact ⟨g, o, rest, rfl, (unhide HKD).1⟩⟩, unhide HY⟩
        | false =>
          rw [hrf] at CC
          have HFN : Hid ((items kids (sl + 1 + 1) ++ (items rest (sl + 1) ++ todo (st.map (·.1)))).find? (refI p) = (items f 1).find? (refI p)) := hide (by
            have h1 := (unhide HX).2.2.2.2.2
            have h3 : ¬ refI p ⟨k, sp, n, ats, tx, kids, st.length + 1⟩ = true := by
              have : refI p ⟨k, sp, n, ats, tx, kids, st.length + 1⟩ = false := hrf
              rw [this]; decide
            rw [List.find?_cons_of_neg h3, (unhide HQ).2] at h1
            exact h1)
          clear hrf
          go_wp2_with fail
          refine (unhide CC).mono ?_
          rintro e3 W3 ⟨rfl, hb3⟩
          have hrow3 := ownsRow_below (unhide HR0) hb3
          obtain ⟨b', capb', hvv, hbb', hcb', c3, cf3, hblt3, hpop3, hset3⟩ := row_last hrow3 (unhide HRL)
          cases hvv
          have HY3 := hide (tr2 (unhide HX).1 hb3)
          have HP3 := hide hset3
          have hsz3 : w.heap.size ≤ W3.heap.size := (unhide HY3).size
          clear hb3 CC hpop3 hset3 hrow3 hbb' hcb' c0 cf0 hblt
          go_upto_region 11 with fail
          generalize hqr : (if ce = 1 then some (⟨g, o, none⟩ : Addr) else some ⟨g, o + 6, none⟩) = qr at *
          have HQR : Hid (Fo qr rest w) := hide (by
            by_cases h1 : ce = 1
            · left
              have hr0 : rest.len = 0 := by have := (unhide HQ).1; omega
              cases rest with
              | nil => rfl
              | cons _ _ _ _ _ _ r => simp [Forest.len] at hr0
            · right; rw [if_neg h1] at hqr; exact ⟨g, o + 6, hqr.symm, (unhide HKD).2.1⟩)
          clear hqr
          have hb0 : w.heap.size ≤ b := by omega
          have HR := hide (unhide HP3 (.slice qr rl (ce - 1)))
          have HY4 := hide ((unhide HY3).setCell (p := ⟨b, sl, none⟩) hb0 (.slice qr rl (ce - 1)))
          have hsz4 : w.heap.size ≤ (W3.setCell ⟨b, sl, none⟩ (.slice qr rl (ce - 1))).heap.size := by simp; omega
          generalize W3.setCell ⟨b, sl, none⟩ (.slice qr rl (ce - 1)) = W4 at *
          obtain ⟨hll, hlr, l5, hck, hfk⟩ := unhide HKD
          have k5 : W4.cell? ⟨g, o + 5, none⟩ = some (.slice qk kids.len ck) := cell_on (unhide HY4) l5
          have hlb : ∀ j, some j = (Value.slice (some ⟨b, 0, none⟩) (sl + 1) capb).ownBlock → w.heap.size ≤ j := fun j hj => ((unhide HR).lt j hj.symm).1
          have HKF := hide (And.intro hfk hck)
          clear hll hlr l5 hck hfk c3 cf3 hblt3
          go_wp2_with (at_builtin; refine wpList_append_own _ rfl _ _ 75 rfl w.heap.size 26 i0 (.slice none 0 0) 1 24 Tryz.underlying75 hi0 hi1 hi2 hi3 rfl (by decide) _ _ _ rfl ((unhide HR).alloc _) ⟨W4.heap.size, 0, none⟩ 1 1 [.slice qk kids.len ck] rfl rfl ?c1 ?c2 ?c3 ?c4 ?c5 ?_)
          case c1 => intro j u hj; exact wlit1 hj
          case c2 => intro u hu; simp at hu; rw [hu]; rfl
          case c3 => unfold maxLen; omega
          case c4 => omega
          case c5 => simp; omega
          intro v' w5 hrow5 hgrow5 _
          obtain ⟨a5, c5, hv5⟩ := wslice_n hrow5
          subst hv5
          have hbL := (unhide HY4).alloc (unhide HY4).size (Obj.cells #[.slice qk kids.len ck] 26)
          have hb5 := hbL.grown hgrow5 hbL.size (fun j hj => by have := hlb _ hj.symm; omega)
          have HZ5 := hide (And.intro hrow5 hb5)
          clear hrow5 hgrow5 hbL hb5 hlb
          go_wp2
          obtain ⟨hrow5, hb5⟩ := unhide HZ5
          obtain ⟨_, _, hc1, hc2, hgk, _⟩ := unhide HX
          obtain ⟨hrlq, hslq⟩ := unhide HQ
          simp only [wcnt, Forest.count, List.length_cons] at hc1 hc2 hgk
          go_roundg (2 * (kids.count + (rest.count + wcnt st)) + (st.length + 1 + 1))
          case measure => omega
          case rel =>
            refine ⟨(kids, qk, ck) :: (rest, qr, ce - 1) :: st, ?_, ?_, rfl, ?_, ?_, ?_, ?_, hb5, hb5.size⟩
            · show kids.count + (rest.count + wcnt st) ≤ 1000000; omega
            · show st.length + 1 + 1 + (kids.count + (rest.count + wcnt st)) ≤ 1000001; omega
            · intro e he
              rcases List.mem_cons.1 he with rfl | he
              · exact unhide HKF
              rcases List.mem_cons.1 he with rfl | he
              · exact ⟨unhide HQR, by show rest.len ≤ ce - 1; omega⟩
              · exact unhide HOK e he
            · rw [rowOf_cons, rowOf_cons, List.append_assoc, List.length_cons, List.length_cons, hslq]
              show w5.ownsRow _ _ _ _ _ (rowOf st ++ ([.slice qr rest.len (ce - 1)] ++ [.slice qk kids.len ck]))
              rw [hrlq]; exact hrow5
            · rw [← unhide HFN]
              show (items kids ((rest :: st.map (·.1)).length + 1) ++ (items rest ((st.map (·.1)).length + 1) ++ todo (st.map (·.1)))).find? _ = _
              rw [List.length_cons, List.length_map, hslq]
            · intro it hx
              have hx' : it ∈ items kids ((rest :: st.map (·.1)).length + 1) ++ (items rest ((st.map (·.1)).length + 1) ++ todo (st.map (·.1))) := hx
              rw [List.length_cons, List.length_map] at hx'
              exact unhide HIT it (List.mem_cons_of_mem _ hx')

/-- Does a policy allow all nodes? -/
def alwF (p : PPol) (f : Forest) : Bool := decide (chkP p = 0) && (items f 1).all fun it => !refI p it
theorem find_all (p : PPol) (l : List Item) : (l.find? (refI p)).isNone = l.all fun it => !refI p it := by
  induction l with
  | nil => rfl
  | cons a t ih =>
    cases h : refI p a with
    | true => rw [List.find?_cons_of_pos h, List.all_cons, h]; rfl
    | false => rw [List.find?_cons_of_neg (by rw [h]; decide), List.all_cons, h, ih]; rfl
set_option maxHeartbeats 2000000 in
theorem allows_any (v : Value) (p : PPol) (f : Forest) (q : Option Addr) (cap : Nat) (w : World) (hv : PolV w v p) (ho : PolOk p) (hf : Fo q f w) (hcap : f.len ≤ cap) (hc : f.count ≤ 1000000) (hok : ∀ it ∈ items f 1, OkI it) :
    Calls Tryz.prog 8 #[v, .slice q f.len cap] w fun e w' => e = .returned (.bool (alwF p f)) ∧ Below w.heap.size w w' := by
  have C1 := hide (fun W hW => check_any v p W (hv.below (w := w) hW) ho)
  have C2 := hide (fun W (hW : Below w.heap.size w W) => find_any v p f q cap W (hv.below hW) (hf.below hW) hcap hc hok)
  obtain ⟨vrs, vs, rfl, h1, h2⟩ := hv
  obtain ⟨a2, c2, rfl⟩ := h2.slice
  obtain ⟨hrl, a1, c1, rfl, _⟩ := h1
  have HA : Hid (alwF p f = (decide (chkP p = 0) && ((items f 1).find? (refI p)).isNone)) := hide (by rw [find_all]; rfl)
  unfold polC at *
  clear h2 hf hok
  generalize alwF p f = D at *
  generalize chkP p = ch at *
  generalize (items f 1).find? (refI p) = F at *
  obtain ⟨rs, sc, ot, st⟩ := p
  dsimp only at *
  generalize rs.length = n1 at *
  generalize sc.length = n2 at *
  generalize f.len = n3 at *
  have al := (Below.refl w.heap.size w).alloc (Nat.le_refl _) (Obj.cells #[.slice a1 n1 c1, .slice a2 n2 c2, .int .i64 ot, .int .i64 st] 25)
  have K := hide (Blk.new w #[.slice a1 n1 c1, .slice a2 n2 c2, .int .i64 ot, .int .i64 st] 25)
  have C1' := hide (unhide C1 _ al)
  by_cases h0 : ch = 0
  · subst h0
    go_enter Tryz.func8, Tryz.ntmps8
    go_wp2_with fail
    refine (unhide C1').mono ?_
    rintro e1 w1 ⟨rfl, hb1⟩
    have hb01 := bel_of hb1
    have C2' := hide (unhide C2 w1 hb01)
    have q0 : w1.cell? ⟨w.heap.size, 0, none⟩ = some (.slice a1 n1 c1) := ((unhide K).later hb1).cell 0
    have q1 : w1.cell? ⟨w.heap.size, 1, none⟩ = some (.slice a2 n2 c2) := ((unhide K).later hb1).cell 1
    have q2 : w1.cell? ⟨w.heap.size, 2, none⟩ = some (.int .i64 ot) := ((unhide K).later hb1).cell 2
    have q3 : w1.cell? ⟨w.heap.size, 3, none⟩ = some (.int .i64 st) := ((unhide K).later hb1).cell 3
    have HB1 := hide hb01
    clear hb1 hb01 C1 C2 C1' al
    go_wp2_with fail
    refine (unhide C2').mono ?_
    rintro e1 w2 ⟨⟨vp, rfl, hvp⟩, hb2⟩
    have HB2 := hide (tr2 (unhide HB1) hb2)
    cases F with
    | none =>
      have hvp' : vp = .pointer none := hvp
      subst hvp'
      clear hb2 hvp
      go_wp2
      go_ret
      exact ⟨by rw [unhide HA]; rfl, unhide HB2⟩
    | some it =>
      obtain ⟨g, o, rest, rfl, _⟩ := hvp
      clear hb2
      go_wp2
      go_ret
      exact ⟨by rw [unhide HA]; rfl, unhide HB2⟩
  · obtain ⟨i0, i1⟩ := chk_ne h0
    have HD := hide (decide_eq_false h0)
    clear h0
    go_enter Tryz.func8, Tryz.ntmps8
    go_wp2_with fail
    refine (unhide C1').mono ?_
    rintro e1 w1 ⟨rfl, hb1⟩
    go_wp2
    go_ret
    exact ⟨by rw [unhide HA, unhide HD]; rfl, bel_of hb1⟩
end Go.Proofs.YtfdhmhdemfbfeaaGreatDoor
