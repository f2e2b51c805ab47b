/-
  Several texts in one: what the functions of the program and of the document's answer do.
-/
import Derived.Test.YtbabmkilbbbmoaaDoorMgAB
import Derived.Test.YtbabmkilbbbmoaaDoorMgAT
import Derived.Deep.RegionWith
import Derived.Deep.Cut
import Derived.Test.YtbabmkilbbbmoaaDoorMgAD
import Derived.Laws.ShiftsVar

/-
  What keys.walk does (whole) under the closure of keys.Key (made by mk_kwk.py).
-/
namespace Go.Proofs.YtbabmkilbbbmoaaDoor
open Go.RowKit Go.Maps
set_option linter.unusedVariables false
set_option linter.unusedSimpArgs false

/-- Nodes' key: of each node, ahead of its kids. -/
def keyF : Forest → List UInt8
  | .nil => []
  | .cons k sp n ats tx kids rest => nodeB k sp n ats tx kids.len ++ (keyF kids ++ keyF rest)
def kdo : List Lev → List UInt8
  | [] => []
  | l :: st => keyF (l.F.drop l.nx) ++ kdo st
theorem kdo_pop (l : Lev) (st : List Lev) (h : l.F.drop l.nx = .nil) : kdo (l :: st) = kdo st ∧ cntL (l :: st) = cntL st := by
  simp only [kdo, cntL, h, keyF, Forest.count, List.nil_append, Nat.zero_add, and_self]
theorem kdo_push (l : Lev) (st : List Lev) (par : Int) {k sp : Int} {n : ByteArray} {ats : List (ByteArray × ByteArray)} {tx : ByteArray} {kids : Forest} (q : Option Addr) (c : Nat) (h : l.F.drop l.nx = .cons k sp n ats tx kids (l.F.drop (l.nx + 1))) :
    kdo (l :: st) = nodeB k sp n ats tx kids.len ++ kdo (⟨kids, q, c, par, 0⟩ :: { l with nx := l.nx + 1 } :: st) ∧ cntL (l :: st) = cntL (⟨kids, q, c, par, 0⟩ :: { l with nx := l.nx + 1 } :: st) + 1 := by
  constructor
  · simp only [kdo, h, keyF, Forest.drop_zero, List.append_assoc]
  · simp only [cntL, h, Forest.drop_zero, Forest.count]; omega
/-- What the walk does beside the closure: rows of levels, and what is new. -/
def StepL (B1 : Nat) (w w' : World) : Prop := w'.os = w.os ∧ w'.tape = w.tape ∧ w'.output = w.output ∧ w.heap.size ≤ w'.heap.size ∧ ∀ i : Nat, i < w.heap.size → (B1 ≤ i → ∀ (cs : Array Value) (z : Nat × Nat), w.heap[i]? ≠ some (Obj.cells cs 137 z)) → w'.heap[i]? = w.heap[i]?
/-- What the closure leaves of the walk's. -/
def KeepL (w w' : World) : Prop := w.heap.size ≤ w'.heap.size ∧ ∀ (i : Nat) (cs : Array Value), w.heap[i]? = some (Obj.cells cs 137 (0, 0)) → w'.heap[i]? = some (Obj.cells cs 137 (0, 0))
theorem StepL.drew (B1 : Nat) (w : World) : StepL B1 w w.drew := ⟨rfl, rfl, rfl, Nat.le_refl _, fun _ _ _ => rfl⟩
theorem StepL.of_below {B1 : Nat} {w w' : World} (h : Below w.heap.size w w') : StepL B1 w w' := ⟨h.os, h.tape, h.output, h.size, fun i hi _ => h.block i hi⟩
theorem StepL.set {B1 : Nat} {w : World} {b o : Nat} {v : Value} {cs : Array Value} {z : Nat × Nat} (hb : w.heap[b]? = some (Obj.cells cs 137 z)) (hB : B1 ≤ b) : StepL B1 w (w.setCell ⟨b, o, none⟩ v) :=
  ⟨rfl, rfl, rfl, by simp, fun i _ hn => Below.heap_setCell w ⟨b, o, none⟩ v i (fun e => hn (by rw [e]; exact hB) cs z (by rw [e]; exact hb))⟩
theorem KeepL.row {w w' : World} (h : KeepL w w') {base : Nat} {v : Value} {n : Nat} {xs : List Value} (hr : w.ownsRow base 137 3 v n xs) : w'.ownsRow base 137 3 v n xs := by
  obtain ⟨hl, hr⟩ := hr
  refine ⟨hl, ?_⟩
  rcases hr with hr | ⟨g, cap, cur, h1, h2, h3, h4⟩
  · exact .inl hr
  · exact .inr ⟨g, cap, cur, h1, h2, h.2 g cur h3, h4⟩
def KvAt (V : World) (Q : Forest → Prop) (J : List UInt8 → World → Prop) (B1 : Nat) (all : List UInt8) (gk : Nat) (num : Nat) (left : Value) (wr : World) : Prop :=
  ∃ (st : List Lev) (acc : List UInt8), cntL st + num ≤ 1000000 ∧ st.length + cntL st ≤ 1000001 ∧ 2 * cntL st + st.length = gk ∧ (∀ l ∈ st, LevOk V l ∧ Q (l.F.drop l.nx)) ∧ wr.ownsRow B1 137 3 left st.length (rowL st) ∧ acc ++ kdo st = all ∧ J acc wr ∧ B1 ≤ wr.heap.size

theorem owns_blockI' {w : World} {base : Nat} {e : TypeId} {size b n cap m : Nat} {xs : List Value} (h : w.ownsRow base e size (.slice (some ⟨b, 0, none⟩) n cap) m xs) : ∃ cur, w.heap[b]? = some (Obj.cells cur e (0, 0)) := (owns_blockI h (k := b) rfl).2
set_option maxHeartbeats 4000000 in
set_option maxRecDepth 100000 in
theorem kwalk_key (w V : World) (Q : Forest → Prop) (hQ : ∀ k sp n ats tx kids rest, Q (.cons k sp n ats tx kids rest) → Q kids ∧ Q rest) (J : List UInt8 → World → Prop) (hJs : ∀ acc W W', J acc W → StepL w.heap.size W W' → J acc W') (hJV : ∀ acc W, J acc W → CellLe V W) (G : Nat) (all : List UInt8)
    (C : ∀ (acc more : List UInt8) (k sp : Int) (n : ByteArray) (ats : List (ByteArray × ByteArray)) (tx : ByteArray) (kids rest : Forest) (g o : Nat) (x1 x2 x3 x4 : Int) (W : World), J acc W → Lies (.cons k sp n ats tx kids rest) g o V → Q (.cons k sp n ats tx kids rest) → acc ++ nodeB k sp n ats tx kids.len ++ more = all →
      Calls Tryd.prog 63 #[.pointer (some ⟨g, o, none⟩), .agg #[.int .i64 x1, .int .i64 x2, .int .i64 x3, .int .i64 x4, .int .i64 0], .pointer (some ⟨G, 0, none⟩)] W fun e W' => e = .returned (.tuple #[]) ∧ J (acc ++ nodeB k sp n ats tx kids.len) W' ∧ KeepL W W')
    (f : Forest) (q : Option Addr) (cap : Nat) (hall : all = keyF f) (hf : Fo q f V) (hq : Q f) (hcap : f.len ≤ cap) (hc : f.count ≤ 500000) (hA : J [] w) :
    Calls Tryd.prog 43 #[.slice q f.len cap, .func (.func 63) #[] #[.pointer (some ⟨G, 0, none⟩)]] w fun e w' => e = .returned (.tuple #[]) ∧ J all w' := by
  have HQ := hide hQ
  have HJS := hide hJs
  have HJV := hide hJV
  have HC := hide C
  obtain ⟨i0, hi0, hi1, hi2, hi3⟩ := infoLev
  have hrow0 : (w.alloc (Obj.cells #[.slice q f.len cap, .int .i64 (-1), .int .i64 0] 137)).ownsRow w.heap.size 137 3 (.slice (some ⟨w.heap.size, 0, none⟩) 1 1) 1 (rowL [⟨f, q, cap, -1, 0⟩]) :=
    ⟨rfl, Or.inr ⟨w.heap.size, 1, #[.slice q f.len cap, .int .i64 (-1), .int .i64 0], rfl, Nat.le_refl _, Blk.new w _ _, Nat.le_refl _, by unfold maxLen; omega, rfl, rfl⟩⟩
  have HAT : Hid (KvAt V Q J w.heap.size all (2 * f.count + 1) 0 (.slice (some ⟨w.heap.size, 0, none⟩) 1 1) (w.alloc (Obj.cells #[.slice q f.len cap, .int .i64 (-1), .int .i64 0] 137))) := hide
    ⟨[⟨f, q, cap, -1, 0⟩], [], by simp [cntL, Forest.drop_zero]; omega, by simp [cntL, Forest.drop_zero]; omega, by simp [cntL, Forest.drop_zero], fun l hl => by simp at hl; subst hl; exact ⟨⟨hf, hcap, Nat.zero_le _, by have := f.len_count; show f.len ≤ _; omega⟩, by show Q (f.drop 0); rw [Forest.drop_zero]; exact hq⟩, hrow0, by simp [kdo, Forest.drop_zero, hall], hJs _ _ _ hA (StepL.of_below ((Below.refl _ _).alloc (Nat.le_refl _) _)), by simp⟩
  clear hrow0 hA hf hQ hJs hJV C hq hall
  go_enter Tryd.func43, Tryd.ntmps43
  go_wp2
  go_loopg [4, 5] (2 * f.count + 1) (fun gk nv left wr => ∃ num : Nat, nv = .int .i64 (num : Int) ∧ KvAt V Q J w.heap.size all gk num left wr)
  case atStart => exact ⟨0, rfl, unhide HAT⟩
  case round =>
    clear HAT
    obtain ⟨num, rfl, st, acc, hc1, hc2, hgk, hok, hrow, htl, hj, hB1⟩ := hrel
    rcases st with _ | ⟨l, st⟩
    · obtain ⟨a4, n4, cap4, hv4⟩ := slice_of hrow
      have hn4 : n4 = 0 := by
        rcases hrow.2 with ⟨h, _⟩ | ⟨g, cap, cur, h, _⟩ <;> (rw [hv4] at h; cases h; rfl)
      subst hv4
      subst hn4
      have HF : Hid (acc = all) := hide (by rw [← htl]; simp [kdo])
      have HX := hide hj
      clear htl hok hrow hj
      go_wp2
      refine bodyPost_end (v := .tuple #[]) (results_none Tryd.results43 _ _ _) rfl ?_
      exact ⟨rfl, by rw [← unhide HF]; exact unhide HX⟩
    · obtain ⟨b, capb, rfl, hbb, hcb, c0, c1, c2, cf, hpop, hset⟩ := top_cells hrow
      have hokl := hok l (List.mem_cons_self ..)
      have HOK := hide (show ∀ x ∈ st, LevOk V x ∧ Q (x.F.drop x.nx) from fun e he => hok e (List.mem_cons_of_mem _ he))
      have hln : (st.length : Int) + 1 ≤ 1000001 := by simp at hc2; omega
      have hcbi : (st.length : Int) + 1 ≤ (capb : Int) := by omega
      obtain ⟨⟨hfo, hlc, hnx, hfl⟩, hql⟩ := hokl
      have hflc : l.F.len ≤ 500000000 ∨ True := Or.inr trivial
      by_cases hend : l.nx = l.F.len
      · have hnil := Forest.drop_out l.nx l.F (by omega)
        obtain ⟨e1, e2⟩ := kdo_pop l st hnil
        have HT : Hid (acc ++ kdo st = all) := hide (by rw [← e1]; exact htl)
        have HX := hide (And.intro hj (And.intro hB1 hpop))
        have hg' : 2 * cntL st + st.length < gk := by rw [e2] at hgk; simp at hgk; omega
        have hc1' : cntL st + num ≤ 1000000 := by rw [e2] at hc1; omega
        have hc2' : st.length + cntL st ≤ 1000001 := by rw [e2] at hc2; simp at hc2; omega
        have f2 := cf (st.length * 3 + 2)
        rw [hend] at c2
        generalize l.F.len = fl at *
        clear htl hok hrow hj hB1 hset hpop hfo hgk hc1 hc2 e1 e2 cf hend hnil hql
        go_wp2
        go_region
        go_wp2
        go_roundg (2 * cntL st + st.length)
        case measure => exact hg'
        case rel => exact ⟨num, rfl, st, acc, hc1', hc2', rfl, unhide HOK, (unhide HX).2.2, unhide HT, unhide HJS _ _ _ (unhide HX).1 (StepL.drew _ _), (unhide HX).2.1⟩
      · have hlt : l.nx < l.F.len := by omega
        obtain ⟨k, sp, n, ats, tx, kids, hd⟩ := Forest.drop_cons l.nx l.F hlt
        rcases hfo with h | ⟨g, o, hq, hl⟩
        · rw [h] at hlt; simp [Forest.len] at hlt
        have hld := hl.drop l.nx
        rw [hd] at hld hql
        have hld0 := hld
        obtain ⟨⟨-, -, -, -, -, ⟨qk, ck, l5, hck, hfk⟩⟩, -⟩ := hld
        obtain ⟨e1, e2⟩ := kdo_push l st (num : Int) qk ck hd
        have HT : Hid ((acc ++ nodeB k sp n ats tx kids.len) ++ kdo (⟨kids, qk, ck, (num : Int), 0⟩ :: { l with nx := l.nx + 1 } :: st) = all) := hide (by rw [List.append_assoc, ← e1]; exact htl)
        have hcu : cntL (⟨kids, qk, ck, (num : Int), 0⟩ :: { l with nx := l.nx + 1 } :: st) + 1 = cntL (l :: st) := e2.symm
        have HC' : Hid (2 * cntL (⟨kids, qk, ck, (num : Int), 0⟩ :: { l with nx := l.nx + 1 } :: st) + (st.length + 2) < gk ∧ cntL (⟨kids, qk, ck, (num : Int), 0⟩ :: { l with nx := l.nx + 1 } :: st) + (num + 1) ≤ 1000000 ∧ (st.length + 2) + cntL (⟨kids, qk, ck, (num : Int), 0⟩ :: { l with nx := l.nx + 1 } :: st) ≤ 1000001) := hide (by simp at hgk hc2; omega)
        have HOK2 : Hid (∀ x ∈ (⟨kids, qk, ck, (num : Int), 0⟩ :: { l with nx := l.nx + 1 } :: st : List Lev), LevOk V x ∧ Q (x.F.drop x.nx)) := hide (fun x hx => by
          rcases List.mem_cons.1 hx with rfl | hx
          · exact ⟨⟨hfk, hck, Nat.zero_le _, by have := kids.len_count; simp only [cntL, hd, Forest.count] at hc1; show kids.len ≤ _; omega⟩, by show Q (kids.drop 0); rw [Forest.drop_zero]; exact (unhide HQ _ _ _ _ _ _ _ hql).1⟩
          · rcases List.mem_cons.1 hx with rfl | hx
            · exact ⟨⟨Or.inr ⟨g, o, hq, hl⟩, hlc, hlt, hfl⟩, (unhide HQ _ _ _ _ _ _ _ hql).2⟩
            · exact unhide HOK x hx)
        have hnumb : (num : Int) + 1 ≤ 1000001 := by omega
        have hwst : IntKind.i64.wrap (st.length : Int) = (st.length : Int) := by rw [IntKind.wrap_i64]; omega
        have CC := hide (fun W hW => unhide HC acc _ k sp n ats tx kids _ g (o + l.nx * 6) (num : Int) l.par (l.nx : Int) (st.length : Int) W hW hld0 hql (unhide HT))
        have HALL := hide (unhide HJS acc wr _ hj ((StepL.of_below (((Below.refl wr.heap.size wr).drew).drew.drew))))
        have HB1 := hide hB1
        have HROW := hide hrow
        have f2 := cf (st.length * 3 + 2)
        have hltn : (l.nx : Int) < (l.F.len : Int) := by omega
        have hnf : ((l.nx : Int) == (l.F.len : Int)) = false := beq_eq_false_iff_ne.2 (by omega)
        have hnfN : (l.nx == l.F.len) = false := beq_eq_false_iff_ne.2 hend
        have HBB := hide hbb
        have hBK : Hid (∃ cur, wr.heap[b]? = some (Obj.cells cur 137 (0, 0))) := hide (owns_blockI' hrow)
        have L5 := hide l5
        rw [hq] at c0
        have HRL : Hid (∀ z : Int, rowL st ++ [.slice l.q l.F.len l.cap, .int .i64 l.par, .int .i64 z] = rowL st ++ [.slice l.q l.F.len l.cap, .int .i64 l.par, .int .i64 z]) := hide (fun _ => rfl)
        clear hset hpop htl hok hrow hj hB1 hl hlc hnx hd l5 hfk hck e1 e2 hcu cf hend hlt hflc hgk hc1 hc2 hld0 hql
        go_wp2
        go_region
        go_wp2
        go_region
        go_wp2
        go_region_with (go_at_call 63; refine Calls.mono (unhide CC _ (unhide HALL)) ?_; rintro e w2 ⟨rfl, hall2, hk2⟩; have HALL2 := hide hall2; have HK2 := hide hk2; clear hall2 hk2)
        all_goals (
          go_upto_region 8 with fail
          have HROW2 := hide ((unhide HK2).row (unhide HROW))
          obtain ⟨b', cap', eb, -, -, d0, d1, d2, df, -, hset⟩ := top_cells (unhide HROW2)
          cases eb
          have HSET := hide (hset ((l.nx : Int) + 1))
          obtain ⟨curb, hcurb⟩ := unhide hBK
          have hbb2 := unhide HBB
          have hcurb2 := (unhide HK2).2 b curb hcurb
          have HJ3 := hide (unhide HJS _ _ _ (unhide HALL2) (StepL.set (o := st.length * 3 + 2) (v := .int .i64 ((l.nx : Int) + 1)) hcurb2 hbb2))
          have k5 : w2.cell? ⟨g, o + l.nx * 6 + 5, none⟩ = some (.slice qk kids.len ck) := unhide HJV _ _ (unhide HALL2) _ _ _ (unhide L5)
          have g2 := df (st.length * 3 + 2)
          have k6 : (w2.setCell ⟨b, st.length * 3 + 2, none⟩ (.int .i64 ((l.nx : Int) + 1))).cell? ⟨g, o + l.nx * 6 + 5, none⟩ = some (.slice qk kids.len ck) := unhide HJV _ _ (unhide HJ3) _ _ _ (unhide L5)
          have hsz2 : w.heap.size ≤ w2.heap.size := Nat.le_trans (unhide HB1) (unhide HK2).1
          have hb2lt : b < w2.heap.size := World.block_lt_of_cell? w2 _ d0
          have HNX : Hid (rowL ({ l with nx := l.nx + 1 } :: st) = rowL st ++ [.slice l.q l.F.len l.cap, .int .i64 l.par, .int .i64 ((l.nx : Int) + 1)]) := hide rfl
          have HBL : Hid (∃ c4, (w2.setCell ⟨b, st.length * 3 + 2, none⟩ (.int .i64 ((l.nx : Int) + 1))).heap[b]? = some (Obj.cells c4 137 (0, 0))) := hide (owns_blockI' (unhide HSET))
          have hn1 : (l.nx : Int) + 1 ≤ 1000001 := by omega
          have hsl : (st.length : Int) + 1 ≤ 1000001 := by omega
          clear hset df c0 c1 c2 f2 CC HALL HROW d0 d1 hwst hltn hnf hnfN hfl hln k5 hcb hcbi hc hcap hcurb hcurb2 hbb2
          iterate 30 go_step
          go_wp2_with (at_builtin; refine wpList_append_own_at _ rfl _ _ 138 rfl w.heap.size 137 i0 (.agg #[.slice none 0 0, .int .i64 0, .int .i64 0]) 3 40 Tryd.underlying138 hi0 hi1 hi2 hi3 rfl (by decide) (.slice (some ⟨b, 0, none⟩) (st.length + 1) capb) _ _ rfl ((unhide HSET).alloc _) ⟨w2.heap.size, 0, none⟩ 1 1 [.slice qk kids.len ck, .int .i64 (num : Int), .int .i64 0] rfl rfl (by have := three_new (w2.setCell ⟨b, st.length * 3 + 2, none⟩ (.int .i64 ((l.nx : Int) + 1))) (.slice qk kids.len ck) (.int .i64 (num : Int)) (.int .i64 0) 137; simpa using this) (by simp [Value.oneCell']) (by simp only [maxLen]; omega) (by omega) (by simp; omega) ?_; intro v' w3 hown hgr _ _; obtain ⟨yq, yn, yc, rfl⟩ := slice_of hown)
          have HO := hide hown
          have HGR := hide hgr
          have hz3 : w2.heap.size ≤ w3.heap.size := by have := hgr.size; simp at this; omega
          have hob : ∀ j, some j = (Value.slice (some (⟨b, 0, none⟩ : Addr)) (st.length + 1) capb).ownBlock → j = b := fun j hj => by simp [Value.ownBlock] at hj; exact hj
          clear hown hgr
          go_wp2
          go_roundg (2 * cntL (⟨kids, qk, ck, (num : Int), 0⟩ :: { l with nx := l.nx + 1 } :: st) + (st.length + 2))
          case measure => exact (unhide HC').1
          case rel =>
            refine ⟨num + 1, by go_num, _, _, (unhide HC').2.1, (unhide HC').2.2, rfl, unhide HOK2, unhide HO, unhide HT, ?_, by omega⟩
            refine unhide HJS _ _ _ (unhide HJ3) ?_
            have hbl := ((Below.refl (w2.setCell ⟨b, st.length * 3 + 2, none⟩ (.int .i64 ((l.nx : Int) + 1))).heap.size (w2.setCell ⟨b, st.length * 3 + 2, none⟩ (.int .i64 ((l.nx : Int) + 1)))).alloc (Nat.le_refl _) (Obj.cells #[.slice qk kids.len ck, .int .i64 (num : Int), .int .i64 0] 137))
            have hG := unhide HGR
            refine ⟨hG.os.trans hbl.os, hG.tape.trans hbl.tape, hG.output.trans hbl.output, by simp; omega, fun i hi hnot => ?_⟩
            rw [hG.block i (by simp at hi ⊢; omega) (fun e => ?_)]
            · exact hbl.block i hi
            · have e' := hob i e
              subst e'
              obtain ⟨c4, hc4⟩ := unhide HBL
              exact hnot (unhide HBB) c4 _ hc4)
end Go.Proofs.YtbabmkilbbbmoaaDoor

/-
  Keys and labels are one just if the nodes are: plain facts.
-/
namespace Go.Proofs.YtbabmkilbbbmoaaDoor
open Go.RowKit
set_option linter.unusedVariables false
set_option linter.unusedSimpArgs false

/-- What digits tell. -/
def valD (l : List UInt8) : Nat := l.foldl (fun a c => a * 10 + (c.toNat - 48)) 0
theorem valD_app (l : List UInt8) (c : UInt8) : valD (l ++ [c]) = valD l * 10 + (c.toNat - 48) := by simp [valD, List.foldl_append]
theorem dig_nat (k : Nat) (h : k < 10) : (UInt8.ofNat (48 + k)).toNat = 48 + k := by
  rw [UInt8.toNat_ofNat']; omega
theorem valD_dec : ∀ (m u : Nat), u ≤ m → valD (Lib.decDigits u) = u ∧ ∀ c ∈ Lib.decDigits u, 48 ≤ c.toNat ∧ c.toNat ≤ 57
  | m, u, hm => by
    unfold Lib.decDigits
    by_cases h : u < 10
    · rw [dif_pos h]
      refine ⟨?_, fun c hc => ?_⟩
      · show 0 * 10 + ((UInt8.ofNat (48 + u)).toNat - 48) = u
        rw [dig_nat u h]; omega
      · rw [List.mem_singleton] at hc
        rw [hc, dig_nat u h]; omega
    · rw [dif_neg h]
      match m, hm with
      | 0, hm => omega
      | m + 1, hm =>
        obtain ⟨h1, h2⟩ := valD_dec m (u / 10) (by omega)
        refine ⟨?_, fun c hc => ?_⟩
        · rw [valD_app, h1, dig_nat _ (by omega)]; omega
        · rcases List.mem_append.1 hc with hc | hc
          · exact h2 c hc
          · rw [List.mem_singleton] at hc
            rw [hc, dig_nat _ (by omega)]; omega
theorem itoB_ch (n : Int) : ∀ c ∈ itoB n, c.toNat = 45 ∨ (48 ≤ c.toNat ∧ c.toNat ≤ 57) := by
  intro c hc
  unfold itoB Lib.itoa at hc
  split at hc
  · rcases List.mem_cons.1 hc with rfl | hc
    · left; rfl
    · right; exact (valD_dec _ _ (Nat.le_refl _)).2 c hc
  · right; exact (valD_dec _ _ (Nat.le_refl _)).2 c hc
theorem itoB_inj {a b : Int} (h : itoB a = itoB b) : a = b := by
  have hd : ∀ u v : Nat, 45 :: Lib.decDigits u ≠ Lib.decDigits v := fun u v e => by
    have := (valD_dec v v (Nat.le_refl _)).2 45 (by rw [← e]; exact List.mem_cons_self ..)
    have h45 : (45 : UInt8).toNat = 45 := rfl
    omega
  have hi : ∀ u v : Nat, Lib.decDigits u = Lib.decDigits v → u = v := fun u v e => by
    rw [← (valD_dec u u (Nat.le_refl _)).1, ← (valD_dec v v (Nat.le_refl _)).1, e]
  unfold itoB Lib.itoa at h
  by_cases ha : a < 0
  · by_cases hb : b < 0
    · rw [if_pos ha, if_pos hb] at h
      injection h with _ h
      have := hi _ _ h
      omega
    · rw [if_pos ha, if_neg hb] at h; exact absurd h (hd _ _)
  · by_cases hb : b < 0
    · rw [if_neg ha, if_pos hb] at h; exact absurd h.symm (hd _ _)
    · rw [if_neg ha, if_neg hb] at h
      have := hi _ _ h
      omega
theorem split_32 : ∀ (x y r s : List UInt8), (∀ c ∈ x, c ≠ 32) → (∀ c ∈ y, c ≠ 32) → x ++ (32 :: r) = y ++ (32 :: s) → x = y ∧ r = s
  | [], [], r, s, hx, hy, h => by simp at h; exact ⟨rfl, h⟩
  | [], b :: y, r, s, hx, hy, h => by
    simp at h
    exact absurd h.1.symm (hy b (List.mem_cons_self ..))
  | a :: x, [], r, s, hx, hy, h => by
    simp at h
    exact absurd h.1 (hx a (List.mem_cons_self ..))
  | a :: x, b :: y, r, s, hx, hy, h => by
    simp only [List.cons_append, List.cons.injEq] at h
    obtain ⟨h1, h2⟩ := split_32 x y r s (fun c hc => hx c (List.mem_cons_of_mem _ hc)) (fun c hc => hy c (List.mem_cons_of_mem _ hc)) h.2
    exact ⟨by rw [h.1, h1], h2⟩
theorem numB_uniq {a b : Int} {r s : List UInt8} (h : numB a ++ r = numB b ++ s) : a = b ∧ r = s := by
  unfold numB at h
  rw [List.append_assoc, List.append_assoc] at h
  have hn : ∀ n : Int, ∀ c ∈ itoB n, c ≠ 32 := fun n c hc e => by
    have := itoB_ch n c hc
    have h32 : (32 : UInt8).toNat = 32 := rfl
    rw [e] at this
    omega
  obtain ⟨h1, h2⟩ := split_32 _ _ r s (hn a) (hn b) h
  exact ⟨itoB_inj h1, h2⟩
theorem textB_uniq {x y : ByteArray} {r s : List UInt8} (h : textB x ++ r = textB y ++ s) : x = y ∧ r = s := by
  unfold textB at h
  rw [List.append_assoc, List.append_assoc] at h
  obtain ⟨h1, h2⟩ := numB_uniq h
  have hl : x.data.toList.length = y.data.toList.length := by
    rw [Array.length_toList, Array.length_toList]
    have : (x.size : Int) = (y.size : Int) := h1
    show x.size = y.size
    omega
  obtain ⟨h3, h4⟩ := List.append_inj h2 hl
  refine ⟨?_, h4⟩
  obtain ⟨dx⟩ := x
  obtain ⟨dy⟩ := y
  have : dx = dy := Array.ext' h3
  rw [this]
theorem labelB_uniq {k sp k' sp' : Int} {n n' : ByteArray} {r s : List UInt8} (h : labelB k sp n ++ r = labelB k' sp' n' ++ s) : k = k' ∧ sp = sp' ∧ n = n' ∧ r = s := by
  unfold labelB at h
  simp only [List.append_assoc] at h
  obtain ⟨h1, h⟩ := numB_uniq h
  obtain ⟨h2, h⟩ := numB_uniq h
  obtain ⟨h3, h⟩ := textB_uniq h
  exact ⟨h1, h2, h3, h⟩
theorem atsB_uniq : ∀ (a b : List (ByteArray × ByteArray)), a.length = b.length → ∀ r s : List UInt8, atsB a ++ r = atsB b ++ s → a = b ∧ r = s
  | [], [], hl, r, s, h => ⟨rfl, h⟩
  | [], b :: y, hl, r, s, h => by simp at hl
  | a :: x, [], hl, r, s, h => by simp at hl
  | a :: x, b :: y, hl, r, s, h => by
    unfold atsB at h
    simp only [List.append_assoc] at h
    obtain ⟨h1, h⟩ := textB_uniq h
    obtain ⟨h2, h⟩ := textB_uniq h
    obtain ⟨h3, h4⟩ := atsB_uniq x y (by simpa using hl) r s h
    exact ⟨by rw [h3, Prod.ext h1 h2], h4⟩
theorem keyF_uniq : ∀ (f g : Forest), f.len = g.len → ∀ r s : List UInt8, keyF f ++ r = keyF g ++ s → f = g ∧ r = s
  | .nil, .nil, hl, r, s, h => ⟨rfl, h⟩
  | .nil, .cons _ _ _ _ _ _ _, hl, r, s, h => by simp [Forest.len] at hl
  | .cons _ _ _ _ _ _ _, .nil, hl, r, s, h => by simp [Forest.len] at hl
  | .cons k sp n ats tx kids rest, .cons k' sp' n' ats' tx' kids' rest', hl, r, s, h => by
    unfold keyF nodeB at h
    simp only [List.append_assoc] at h
    obtain ⟨h1, h2, h3, h⟩ := labelB_uniq h
    obtain ⟨h4, h⟩ := textB_uniq h
    obtain ⟨h5, h⟩ := numB_uniq h
    obtain ⟨h6, h⟩ := atsB_uniq ats ats' (by omega) _ _ h
    obtain ⟨h7, h⟩ := numB_uniq h
    obtain ⟨h8, h⟩ := keyF_uniq kids kids' (by omega) _ _ h
    obtain ⟨h9, h⟩ := keyF_uniq rest rest' (by simp [Forest.len] at hl; exact hl) _ _ h
    exact ⟨by rw [h1, h2, h3, h4, h6, h8, h9], h⟩
/-- Two nodes have one key just if they are the same. -/
theorem key_one (k sp : Int) (n : ByteArray) (ats : List (ByteArray × ByteArray)) (tx : ByteArray) (kids : Forest) (k' sp' : Int) (n' : ByteArray) (ats' : List (ByteArray × ByteArray)) (tx' : ByteArray) (kids' : Forest) :
    keyF (.cons k sp n ats tx kids .nil) = keyF (.cons k' sp' n' ats' tx' kids' .nil) ↔ Forest.cons k sp n ats tx kids .nil = Forest.cons k' sp' n' ats' tx' kids' .nil :=
  ⟨fun h => (keyF_uniq (.cons k sp n ats tx kids .nil) (.cons k' sp' n' ats' tx' kids' .nil) rfl [] [] (by rw [h])).1, fun h => by rw [h]⟩
theorem label_one (k sp : Int) (n : ByteArray) (k' sp' : Int) (n' : ByteArray) : labelB k sp n = labelB k' sp' n' ↔ k = k' ∧ sp = sp' ∧ n = n' :=
  ⟨fun h => by
    obtain ⟨h1, h2, h3, _⟩ := labelB_uniq (k := k) (sp := sp) (n := n) (k' := k') (sp' := sp') (n' := n') (r := []) (s := []) (by rw [h])
    exact ⟨h1, h2, h3⟩, fun ⟨h1, h2, h3⟩ => by rw [h1, h2, h3]⟩
end Go.Proofs.YtbabmkilbbbmoaaDoor

/-
  match's choices: bits in words; what onInA and setOnInA do.
-/
namespace Go.Proofs.YtbabmkilbbbmoaaDoor
open Go.RowKit
set_option linter.unusedVariables false
set_option linter.unusedSimpArgs false

def wordV (x : Nat) : Value := .int .u64 (x : Int)
def ptr (p : Nat) : Value := .pointer (some ⟨p, 0, none⟩)
def bitAt (X : List Nat) (a : Nat) : Bool := (X.getD (a / 64) 0).testBit (a % 64)

theorem bit_get (x k : Nat) (h : x < 18446744073709551616) : (bits .and .u64 ((x : Int) / 2 ^ k) 1 == 1) = x.testBit k := by
  have hd : ((x : Int) / 2 ^ k) = ((x / 2 ^ k : Nat) : Int) := by simp
  have hle : x / 2 ^ k ≤ x := Nat.div_le_self _ _
  have hnn : (0 : Int) ≤ ((x / 2 ^ k : Nat) : Int) := Int.natCast_nonneg _
  generalize hq : x / 2 ^ k = q at *
  rw [hd, and_one_u64 _ hnn (by omega), Nat.testBit_eq_decide_div_mod_eq]
  by_cases h1 : q % 2 = 1
  · rw [hq, decide_eq_true h1]
    have : (q : Int) % 2 = 1 := by omega
    rw [this]; rfl
  · rw [hq, decide_eq_false h1]
    have : (q : Int) % 2 = 0 := by omega
    rw [this]; rfl
theorem or_lt {x k : Nat} (h : x < 18446744073709551616) (hk : k < 64) : x ||| 2 ^ k < 18446744073709551616 := by
  have h2 : 2 ^ k < 2 ^ 64 := Nat.pow_lt_pow_of_lt (by decide) hk
  exact Nat.or_lt_two_pow (n := 64) h h2
theorem u64_pow {k : Nat} (hk : k < 64) : IntKind.u64.wrap (2 ^ k) = 2 ^ k := by
  have h2 : (2 : Int) ^ k < 2 ^ 64 := Int.pow_lt_pow_of_lt (by decide) hk
  rw [IntKind.wrap_u64]
  exact Int.emod_eq_of_lt (Int.le_of_lt (Int.pow_pos (by decide))) h2
theorem bit_set (x k : Nat) (h : x < 18446744073709551616) (hk : k < 64) : bits .or .u64 (x : Int) (2 ^ k) = ((x ||| 2 ^ k : Nat) : Int) := by
  have h2 : 2 ^ k < 2 ^ 64 := Nat.pow_lt_pow_of_lt (by decide) hk
  have e : ((2 : Int) ^ k) = ((2 ^ k : Nat) : Int) := by simp
  rw [e, u64_or_nat x (2 ^ k) h h2]
set_option maxHeartbeats 1000000 in
theorem onInA_any (cb g n cap W i j p x : Nat) (w : World) (hc : Blk w cb #[.int .i64 (W : Int), .slice (some ⟨g, 0, none⟩) n cap] 151)
    (hp : (i : Int) * (W : Int) = (p : Int)) (hb : p + j ≤ 10000000) (hn : (p + j) / 64 < n) (hx : w.cell? ⟨g, (p + j) / 64, none⟩ = some (.int .u64 (x : Int))) (hx2 : x < 18446744073709551616) :
    Calls Tryd.prog 84 #[ptr cb, .int .i64 (i : Int), .int .i64 (j : Int)] w fun e w' => e = .returned (.bool (x.testBit ((p + j) % 64))) ∧ w' = w := by
  have c0 : w.cell? ⟨cb, 0, none⟩ = some (.int .i64 (W : Int)) := hc.cell 0
  have c1 : w.cell? ⟨cb, 1, none⟩ = some (.slice (some ⟨g, 0, none⟩) n cap) := hc.cell 1
  clear hc
  unfold ptr
  go_enter Tryd.func84, Tryd.ntmps84
  go_wp2
  go_ret
  exact ⟨by rw [bit_get _ _ hx2]; rfl, rfl⟩

set_option maxHeartbeats 1000000 in
theorem setOnInA_any (cb g n cap W i j p x : Nat) (w : World) (hc : Blk w cb #[.int .i64 (W : Int), .slice (some ⟨g, 0, none⟩) n cap] 151)
    (hp : (i : Int) * (W : Int) = (p : Int)) (hb : p + j ≤ 10000000) (hn : (p + j) / 64 < n) (hx : w.cell? ⟨g, (p + j) / 64, none⟩ = some (.int .u64 (x : Int))) (hf : w.frozen? ⟨g, (p + j) / 64, none⟩ = false) (hx2 : x < 18446744073709551616) (hne : g ≠ cb) :
    Calls Tryd.prog 109 #[ptr cb, .int .i64 (i : Int), .int .i64 (j : Int)] w fun e w' => e = .returned (.tuple #[]) ∧ w' = (w.setCell ⟨g, (p + j) / 64, none⟩ (wordV (x ||| 2 ^ ((p + j) % 64)))).drew := by
  have c0 : w.cell? ⟨cb, 0, none⟩ = some (.int .i64 (W : Int)) := hc.cell 0
  have c1 : w.cell? ⟨cb, 1, none⟩ = some (.slice (some ⟨g, 0, none⟩) n cap) := hc.cell 1
  clear hc
  unfold ptr
  go_enter Tryd.func109, Tryd.ntmps109
  go_wp2
  go_region
  rw [u64_pow (Nat.mod_lt _ (by decide)), bit_set _ _ hx2 (Nat.mod_lt _ (by decide))]
  refine bodyPost_end (v := .tuple #[]) (results_none Tryd.results109 _ _ _) rfl ?_
  exact ⟨rfl, rfl⟩
end Go.Proofs.YtbabmkilbbbmoaaDoor
