/-
  Nodes' text, plainly; and how far it is written, as a row of levels.
-/
import Derived.Test.YtpfnjgkfombmpaaDoorJAh
import Derived.Test.YtpfnjgkfombmpaaDoorYCk
import Derived.Test.YtpfnjgkfombmpaaDoorKSt
import Derived.Deep.LoopGhost
import Derived.Laws.EntriesVeiled
import Derived.Laws.AppendOwn
import Derived.Deep.Cut
namespace Go.Proofs.YtpfnjgkfombmpaaDoor
open Go.RowKit
set_option linter.unusedVariables false
set_option linter.unusedSimpArgs false

def endL (n : List UInt8) : List UInt8 := [60, 47] ++ (n ++ [62])
def txF : Forest → Bool → List UInt8
  | .nil, _ => []
  | .cons k sp n ats tx kids rest, raw => ahL k n.data.toList ats tx.data.toList raw ++ ((if k = 1 ∧ vdB sp n = false then txF kids (rwB k sp n) ++ endL n.data.toList else []) ++ txF rest raw)
structure Lev where
  fo : Forest
  q : Option Addr
  cap : Nat
  raw : Bool
  en : ByteArray
def Lev.cells (e : Lev) : List Value := [.slice e.q e.fo.len e.cap, .bool e.raw, .string e.en]
def rowL : List Lev → List Value
  | [] => []
  | e :: st => rowL st ++ e.cells
theorem rowL_len : ∀ st : List Lev, (rowL st).length = st.length * 3
  | [] => rfl
  | e :: st => by rw [rowL, List.length_append, rowL_len st, List.length_cons]; show _ + 3 = _; omega
def cntL : List Lev → Nat
  | [] => 0
  | e :: st => e.fo.count + cntL st
def tdL : List Lev → List UInt8
  | [] => []
  | e :: st => txF e.fo e.raw ++ (e.en.data.toList ++ tdL st)
theorem row_last3 {w : World} {base : Nat} {e : TypeId} {v x0 x1 x2 : Value} {n : Nat} {xs : List Value} (h : w.ownsRow base e 3 v (n + 1) (xs ++ [x0, x1, x2])) (hl : xs.length = n * 3) :
    ∃ b cap, v = .slice (some ⟨b, 0, none⟩) (n + 1) cap ∧ base ≤ b ∧ n + 1 ≤ cap ∧ (w.cell? ⟨b, n * 3, none⟩ = some x0 ∧ w.cell? ⟨b, n * 3 + 1, none⟩ = some x1 ∧ w.cell? ⟨b, n * 3 + 2, none⟩ = some x2) ∧ w.frozen? ⟨b, n * 3, none⟩ = false ∧ b < w.heap.size ∧
      w.ownsRow base e 3 (.slice (some ⟨b, 0, none⟩) n cap) n xs ∧ ∀ y, (w.setCell ⟨b, n * 3, none⟩ y).ownsRow base e 3 (.slice (some ⟨b, 0, none⟩) (n + 1) cap) (n + 1) (xs ++ [y, x1, x2]) := by
  obtain ⟨hlen, h⟩ := h
  rcases h with ⟨_, h0⟩ | ⟨b, cap, cur, rfl, h1, h2, h3, h4, h5, h6⟩
  · omega
  have kb : Blk w b cur e := h2
  have hsz : n * 3 + 2 < cur.size := by rw [h5]; omega
  have hx : ∀ j x, ([x0, x1, x2] : List Value)[j]? = some x → cur[n * 3 + j]? = some x := fun j x hj => by
    have hj3 : j < 3 := (List.getElem?_eq_some_iff.1 hj).1
    have := congrArg (fun l => l[n * 3 + j]?) h6
    rw [List.getElem?_take, if_pos (by omega), List.getElem?_append_right (by omega), hl, show n * 3 + j - n * 3 = j by omega, hj] at this
    simpa using this
  have hc : ∀ j x, ([x0, x1, x2] : List Value)[j]? = some x → w.cell? ⟨b, n * 3 + j, none⟩ = some x := fun j x hj => (kb.cell _).trans (hx j x hj)
  refine ⟨b, cap, rfl, h1, h3, ⟨hc 0 _ rfl, hc 1 _ rfl, hc 2 _ rfl⟩, kb.frozen _, kb.lt, ⟨hl, Or.inr ⟨b, cap, cur, rfl, h1, h2, by omega, h4, h5, ?_⟩⟩, fun y => ⟨by simp [hl]; omega, Or.inr ⟨b, cap, cur.set (n * 3) y (by omega), rfl, h1, kb.set (n * 3) (by omega) y, h3, h4, by rw [Array.size_set]; exact h5, ?_⟩⟩⟩
  · have := congrArg (fun l => l.take (n * 3)) h6
    rw [List.take_take, Nat.min_eq_left (by omega), List.take_left' hl] at this
    exact this
  · rw [Array.toList_set, List.take_set, h6, List.set_append_right _ _ (by omega), hl, Nat.sub_self]
    rfl
/-- Rows of levels stand as they stood. -/
def KeepL (w w' : World) : Prop := w.heap.size ≤ w'.heap.size ∧ ∀ (b : Nat) (c : Array Value), w.heap[b]? = some (Obj.cells c 93 (0, 0)) → w'.heap[b]? = some (Obj.cells c 93 (0, 0))
theorem KeepL.below {w w' : World} (h : Below w.heap.size w w') : KeepL w w' := ⟨h.size, fun b c hb => (h.block b (Blk.lt (w := w) hb)).trans hb⟩
theorem KeepL.trans {w w1 w2 : World} (h : KeepL w w1) (h' : KeepL w1 w2) : KeepL w w2 := ⟨Nat.le_trans h.1 h'.1, fun b c hb => h'.2 b c (h.2 b c hb)⟩
theorem owns_keepL {w w' : World} {base : Nat} {size : Nat} {v : Value} {n : Nat} {xs : List Value} (h : w.ownsRow base 93 size v n xs) (hs : KeepL w w') : w'.ownsRow base 93 size v n xs := by
  obtain ⟨hl, h⟩ := h
  refine ⟨hl, ?_⟩
  rcases h with h | ⟨g, cap, cur, h1, h2, h3, h4, h5, h6, h7⟩
  · exact .inl h
  · exact .inr ⟨g, cap, cur, h1, h2, hs.2 _ _ h3, h4, h5, h6, h7⟩
theorem row_tyL {w : World} {base : Nat} {e : TypeId} {size : Nat} {b cap0 n : Nat} {xs : List Value} (h : w.ownsRow base e size (.slice (some ⟨b, 0, none⟩) n cap0) n xs) : ∃ c, w.heap[b]? = some (.cells c e (0, 0)) := by
  rcases h.2 with ⟨h, h0⟩ | ⟨g, cap, cur, h1, h2, h3, _⟩
  · cases h
  · injection h1 with h1
    injection h1 with h1
    injection h1 with h1
    subst h1
    exact ⟨cur, h3⟩
theorem kept_setL {w : World} {b o : Nat} {e : TypeId} (h : ∃ c, w.heap[b]? = some (.cells c e (0, 0))) (v : Value) : Lib.OthersKept e none w (w.setCell ⟨b, o, none⟩ v) := by
  intro k x hk _ hx
  by_cases hkb : k = b
  · subst hkb
    obtain ⟨c, hc⟩ := h
    rw [hc] at hk
    injection hk with hk
    exact absurd hk.symm (hx _ _)
  · exact (Below.heap_setCell w ⟨b, o, none⟩ v k hkb).trans hk
def LevOk (w0 : World) (st : List Lev) : Prop := ∀ e ∈ st, Fo e.q e.fo w0 ∧ e.fo.len ≤ e.cap ∧ SmF e.fo ∧ e.en.size ≤ 10000
def WrAt (Inv : List UInt8 → World → Prop) (w0 : World) (B1 : Nat) (fin : List UInt8) (gk : Nat) (left : Value) (wr : World) : Prop :=
  ∃ (st : List Lev) (l : List UInt8), cntL st ≤ 1000000 ∧ st.length + cntL st ≤ 1000001 ∧ 2 * cntL st + st.length = gk ∧ LevOk w0 st ∧ wr.ownsRow B1 93 3 left st.length (rowL st) ∧ l ++ tdL st = fin ∧ Inv l wr ∧ Below w0.heap.size w0 wr ∧ w0.heap.size ≤ B1 ∧ B1 ≤ wr.heap.size
theorem infoLevel0 : (Tryd.prog.info? 93).map (fun i => (i.zero, i.size, i.bytes)) = some (some (.agg #[.slice none 0 0, .bool false, .string ⟨#[]⟩]), 3, 48) := by kernel_rfl
theorem lit3 {X : World} {x0 x1 x2 : Value} {t : TypeId} {j : Nat} {u : Value} (h : [x0, x1, x2][j]? = some u) : (X.alloc (.cells #[x0, x1, x2] t)).cell? ((⟨X.heap.size, 0, none⟩ : Addr).add j) = some u := by
  have e : (⟨X.heap.size, 0, none⟩ : Addr).add j = ⟨X.heap.size, 0 + j, none⟩ := by unfold Addr.add; split <;> simp_all
  rw [e, Nat.zero_add]
  exact ((Blk.new X #[x0, x1, x2] t).cell j).trans (by simpa using h)
theorem end_bs (n : ByteArray) : (⟨#[60, 47]⟩ : ByteArray) ++ n ++ ⟨#[62]⟩ = bs (endL n.data.toList) := by
  have h1 : (⟨#[60, 47]⟩ : ByteArray) = bs [60, 47] := rfl
  have h2 : (⟨#[62]⟩ : ByteArray) = bs [62] := rfl
  rw [h1, h2, bs_add, bs_bs]; unfold endL; simp
def KeepE (g o : Nat) (n : ByteArray) (qk : Option Addr) (kl ck : Nat) (W : World) : Prop := W.cell? ⟨g, o + 2, none⟩ = some (.string n) ∧ W.cell? ⟨g, o + 5, none⟩ = some (.slice qk kl ck)
set_option maxHeartbeats 2000000 in
set_option maxRecDepth 100000 in
theorem write_text (Inv : List UInt8 → World → Prop) (G : Nat) (w0 : World) (fin : List UInt8) (ht : Tabs w0)
    (hstab : ∀ l w w', Inv l w → Lib.OthersKept 93 none w w' → Inv l w')
    (hlat : ∀ l w w', Inv l w → Below w.heap.size w w' → Inv l w')
    (C : ∀ (l : List UInt8) (s : ByteArray) (W : World), Inv l W → Below w0.heap.size w0 W → l.length + s.size ≤ fin.length → Calls Tryd.prog 41 #[.string s, .pointer (some ⟨G, 0, none⟩)] W fun e w' => e = .returned (.tuple #[]) ∧ Inv (l ++ s.data.toList) w' ∧ Below w0.heap.size w0 w' ∧ KeepL W w')
    (f : Forest) (q : Option Addr) (cap : Nat) (w : World) (hf : Fo q f w0) (hsm : SmF f) (hcap : f.len ≤ cap) (hc : f.count ≤ 1000000) (hfin : txF f false = fin) (hI : Inv [] w) (hb : Below w0.heap.size w0 w) :
    Calls Tryd.prog 40 #[.slice q f.len cap, .func (.func 41) #[] #[.pointer (some ⟨G, 0, none⟩)]] w fun e w' => e = .returned (.tuple #[]) ∧ Inv fin w' ∧ Below w0.heap.size w0 w' := by
  have HC := hide C
  have HST := hide hstab
  have HLA := hide hlat
  have HT := hide ht
  obtain ⟨i0, hi0, hi1, hi2, hi3⟩ := info_parts infoLevel0
  have hrow0 : (w.alloc (Obj.cells #[.slice q f.len cap, .bool false, .string ⟨#[]⟩] 93)).ownsRow w.heap.size 93 3 (.slice (some ⟨w.heap.size, 0, none⟩) 1 1) 1 [.slice q f.len cap, .bool false, .string ⟨#[]⟩] :=
    ⟨rfl, Or.inr ⟨w.heap.size, 1, #[.slice q f.len cap, .bool false, .string ⟨#[]⟩], rfl, Nat.le_refl _, Blk.new w _ _, Nat.le_refl _, by unfold maxLen; omega, rfl, rfl⟩⟩
  have HAT : Hid (WrAt Inv w0 w.heap.size fin (2 * f.count + 1) (.slice (some ⟨w.heap.size, 0, none⟩) 1 1) (w.alloc (Obj.cells #[.slice q f.len cap, .bool false, .string ⟨#[]⟩] 93))) := hide ⟨[⟨f, q, cap, false, ⟨#[]⟩⟩], [], by simpa [cntL] using hc, by simp [cntL]; omega, by simp [cntL], fun e he => by rw [List.mem_singleton.1 he]; exact ⟨hf, hcap, hsm, by show (0 : Nat) ≤ _; omega⟩, hrow0, by simp [tdL]; exact hfin, hstab [] w _ hI ((Lib.OthersKept.refl _ _ _).alloc _), hb.alloc hb.size _, hb.size, by simp⟩
  clear C hstab hlat ht hrow0 hI hf hsm hfin hb
  go_enter Tryd.func40, Tryd.ntmps40
  go_wp2
  go_loopg [4] (2 * f.count + 1) (fun gk left wr => WrAt Inv w0 w.heap.size fin gk left wr)
  case atStart => exact unhide HAT
  case round =>
    clear HAT
    obtain ⟨st, l, hc1, hc2, hgk, hok, hrow, htd, hinv, hbw, hB1, hsz⟩ := hrel
    match st, hc1, hc2, hgk, hok, hrow, htd with
    | [], hc1, hc2, hgk, hok, hrow, htd =>
      obtain ⟨a4, cap4, rfl⟩ := slice_n hrow
      have HF : Hid (l = fin) := hide (by simpa [tdL] using htd)
      have HX := hide (And.intro hinv hbw)
      simp only [List.length_nil]
      clear htd hok hrow hinv hbw
      go_wp2
      refine bodyPost_end (v := .tuple #[]) (results_none Tryd.results40 _ _ _) rfl ?_
      exact ⟨rfl, by rw [← unhide HF]; exact (unhide HX).1, (unhide HX).2⟩
    | ⟨fo, qe, ce, raw, en⟩ :: st, hc1, hc2, hgk, hok, hrow, htd =>
      rw [rowL] at hrow
      obtain ⟨b, capb, rfl, hbb, hcb, ⟨x0, x1, x2⟩, cf0, hblt, hpop, hset⟩ := row_last3 hrow (rowL_len st)
      have HTY := hide (row_tyL hrow)
      obtain ⟨hfo, hce, hsm, hen⟩ := hok _ (List.mem_cons_self ..)
      have HOK := hide (show LevOk w0 st from fun e he => hok e (List.mem_cons_of_mem _ he))
      have hln : (st.length : Int) + 1 ≤ 1000001 := by simp at hc2; omega
      have hcbi : (st.length : Int) + 1 ≤ (capb : Int) := by omega
      dsimp only at hfo hce hsm hen x0 x1 x2
      cases fo with
      | nil =>
        have hl' : l.length + en.size ≤ fin.length := by
          rw [← htd]
          have := data_len en
          simp only [tdL, txF, List.nil_append, List.length_append]
          omega
        have CE := hide (unhide HC l en wr hinv hbw hl')
        have HT2 : Hid (l ++ en.data.toList ++ tdL st = fin) := hide (by rw [← htd]; simp [tdL, txF])
        have HX := hide (And.intro hsz (And.intro hpop (And.intro hB1 hbb)))
        have hg' : 2 * cntL st + st.length < gk := by simp [cntL, Forest.count] at hgk; omega
        have hc1' : cntL st ≤ 1000000 := by simp [cntL, Forest.count] at hc1; omega
        have hc2' : st.length + cntL st ≤ 1000001 := by simp [cntL, Forest.count] at hc2; omega
        simp only [Forest.len] at x0
        clear htd hok hrow hinv hbw hset hpop hgk hc1 hc2 hl' hfo hce hsm hB1
        go_wp2_with fail
        refine (unhide CE).mono ?_
        rintro e W2 ⟨rfl, hI2, hb2, hk2⟩
        have HY := hide (And.intro hI2 (And.intro hb2 (And.intro (owns_keepL (unhide HX).2.1 hk2) (Nat.le_trans (unhide HX).1 hk2.1))))
        clear hI2 hb2 hk2 CE x0 x1 x2 cf0
        go_wp2
        go_roundg (2 * cntL st + st.length)
        case measure => exact hg'
        case rel => exact ⟨st, _, hc1', hc2', rfl, unhide HOK, (unhide HY).2.2.1, unhide HT2, (unhide HY).1, (unhide HY).2.1, (unhide HX).2.2.1, (unhide HY).2.2.2⟩
      | cons k sp n ats tx kids rest =>
        have hsm' : SmF (.cons k sp n ats tx kids rest) := hsm
        have HSM := hide hsm'
        rcases hfo with h | ⟨g, o, hq, hl⟩
        · cases h
        have hq' : qe = some ⟨g, o, none⟩ := hq
        subst hq'
        have hce' : rest.len + 1 ≤ ce := hce
        have hcei : (rest.len : Int) + 1 ≤ (ce : Int) := by omega
        have hrl : (rest.len : Int) + 1 ≤ 1000001 := by
          have := rest.len_count
          simp [cntL, Forest.count] at hc1
          omega
        have hkl : kids.len ≤ 1000000 := by
          have := kids.len_count
          simp [cntL, Forest.count] at hc1
          omega
        simp only [Forest.len] at x0
        have HP := hide hset
        have e1 : ((rest.len : Int) + 1 == 0) = false := beq_eq_false_iff_ne.2 (by omega)
        have hl1 : l.length + (ahL k n.data.toList ats tx.data.toList raw).length ≤ fin.length := by
          rw [← htd]
          simp only [tdL, txF, List.length_append]
          omega
        have HX := hide (And.intro hinv (And.intro hbw (And.intro hsz (And.intro hc1 (And.intro hc2 (And.intro hgk (And.intro htd (And.intro hB1 hl1))))))))
        have HKD := hide hl
        have HEN := hide hen
        clear hok hrow hpop hce hset hinv hbw hsz hc1 hc2 hgk htd hl hce' hl1 hB1 hsm hsm' hen hq
        obtain ⟨rl, hrlq⟩ : ∃ rl, rest.len = rl := ⟨_, rfl⟩
        obtain ⟨sl, hslq⟩ : ∃ sl, st.length = sl := ⟨_, rfl⟩
        obtain ⟨kl, hklq⟩ : ∃ kl, kids.len = kl := ⟨_, rfl⟩
        rw [hrlq] at x0 hcei hrl e1
        rw [hklq] at hkl
        rw [hslq] at x0 x1 x2 cf0 hln hcbi HP hcb
        rw [hslq]
        have HQ := hide (And.intro hrlq (And.intro hslq hklq))
        clear hrlq hslq hklq
        have j1 : (1 : Int) ≤ (rl : Int) + 1 := by omega
        have j2 : (0 : Int) < (rl : Int) + 1 := by omega
        go_upto_region 8 with fail
        generalize hqr : (if ce = 1 then some (⟨g, o, none⟩ : Addr) else some ⟨g, o + 6, none⟩) = qr at *
        have HQR : Hid (Fo qr rest w0) := hide (by
          by_cases h1 : ce = 1
          · left
            have hr0 : rest.len = 0 := by have := (unhide HQ).1; omega
            cases rest with
            | nil => rfl
            | cons _ _ _ _ _ _ r => simp [Forest.len] at hr0
          · right; rw [if_neg h1] at hqr; exact ⟨g, o + 6, hqr.symm, (unhide HKD).2⟩)
        clear hqr
        have hb0 : w0.heap.size ≤ b := by have := (unhide HX).2.2.2.2.2.2.2.1; omega
        have hX2 := (unhide HX).2.1.setCell (p := ⟨b, sl * 3, none⟩) hb0 (.slice qr rl (ce - 1))
        have y1 : (wr.setCell ⟨b, sl * 3, none⟩ (.slice qr rl (ce - 1))).cell? ⟨b, sl * 3 + 1, none⟩ = some (.bool raw) := by
          rw [World.cell?_setCell_other _ _ _ _ (by simp)]; exact x1
        have HX1 := hide (And.intro (unhide HST l wr _ (unhide HX).1 (kept_setL (unhide HTY) (o := sl * 3) (.slice qr rl (ce - 1)))) (And.intro hX2 (And.intro (unhide HP (.slice qr rl (ce - 1))) (show w.heap.size ≤ (wr.setCell ⟨b, sl * 3, none⟩ (.slice qr rl (ce - 1))).heap.size by have := (unhide HX).2.2.1; simp; omega))))
        have CA := hide (ahead_any g o k sp n ats tx kids rest raw _ ((unhide HT).below hX2) ((unhide HKD).below hX2) (unhide HSM).1.2.2.1 (by have := (unhide HSM).1.2.1; omega) (by have := (unhide HSM).1.1; omega))
        clear hX2 x0 x1 x2 cf0
        have HAL : Hid ((bs (ahL k n.data.toList ats tx.data.toList raw)).size = (ahL k n.data.toList ats tx.data.toList raw).length ∧ (bs (ahL k n.data.toList ats tx.data.toList raw)).data.toList = ahL k n.data.toList ats tx.data.toList raw) := hide ⟨bs_size _, bs_toList _⟩
        have HTX : Hid (txF (.cons k sp n ats tx kids rest) raw = ahL k n.data.toList ats tx.data.toList raw ++ ((if k = 1 ∧ vdB sp n = false then txF kids (rwB k sp n) ++ endL n.data.toList else []) ++ txF rest raw)) := hide rfl
        generalize ahL k n.data.toList ats tx.data.toList raw = ah at *
        go_wp2_with fail
        refine (unhide CA).mono ?_
        rintro e W2 ⟨rfl, hb2⟩
        have CP := hide (unhide HC l (bs ah) W2 (unhide HLA l _ _ (unhide HX1).1 hb2) ((unhide HX1).2.1.trans (hb2.mono (unhide HX1).2.1.size)) (by rw [(unhide HAL).1]; exact (unhide HX).2.2.2.2.2.2.2.2))
        rw [(unhide HAL).2] at CP
        have HR2 := hide (And.intro (owns_keepL (unhide HX1).2.2.1 (KeepL.below hb2)) (Nat.le_trans (unhide HX1).2.2.2 hb2.size))
        clear CA hb2 y1
        go_wp2_with fail
        refine (unhide CP).mono ?_
        rintro e W3 ⟨rfl, hI3, hb3, hk3⟩
        have hl3 := (unhide HKD).below hb3
        obtain ⟨⟨_, _, _, _, _, ⟨qk, ck, c5', hck, hfk⟩⟩, _⟩ := unhide HKD
        have c5 := cell_later hb3 c5'
        obtain ⟨⟨c0, c1, c2, _⟩, _⟩ := hl3
        have HFW := hide (show Fo qk kids w0 from hfk)
        clear c5'
        rw [(unhide HQ).2.2] at c5 hck
        have HFK := hide (And.intro True.intro hck)
        have HR3 := hide (And.intro (owns_keepL (unhide HR2).1 hk3) (Nat.le_trans (unhide HR2).2 hk3.1))
        have HY := hide (And.intro hI3 hb3)
        clear CP hI3 hb3 hk3 HR2 HX1 hfk hck HAL
        have CV := hide (isvoid_any g o sp n W3 c1 c2)
        have NOPUSH : Hid (¬ (k = 1 ∧ vdB sp n = false) → WrAt Inv w0 w.heap.size fin (2 * (rest.count + cntL st) + (st.length + 1)) (.slice (some ⟨b, 0, none⟩) (sl + 1) capb) W3 ∧ 2 * (rest.count + cntL st) + (st.length + 1) < gk) := hide (fun hno => by
          obtain ⟨_, _, hsz, hc1, hc2, hgk, htd, hB1, _⟩ := unhide HX
          obtain ⟨hrlq, hslq, _⟩ := unhide HQ
          simp only [cntL, Forest.count, List.length_cons] at hc1 hc2 hgk
          refine ⟨⟨⟨rest, qr, ce - 1, raw, en⟩ :: st, l ++ ah, by show rest.count + cntL st ≤ _; omega, by show st.length + 1 + (rest.count + cntL st) ≤ _; omega, rfl, fun e he => ?_, ?_, ?_, (unhide HY).1, (unhide HY).2, hB1, (unhide HR3).2⟩, by omega⟩
          · rcases List.mem_cons.1 he with rfl | he
            · exact ⟨unhide HQR, by show rest.len ≤ ce - 1; omega, (unhide HSM).2.2, unhide HEN⟩
            · exact unhide HOK e he
          · rw [rowL, List.length_cons, hslq]
            show W3.ownsRow _ _ _ _ _ (rowL st ++ [.slice qr rest.len (ce - 1), .bool raw, .string en])
            rw [hrlq]; exact (unhide HR3).1
          · rw [← htd]
            show l ++ ah ++ (txF rest raw ++ (en.data.toList ++ tdL st)) = l ++ (txF (.cons k sp n ats tx kids rest) raw ++ (en.data.toList ++ tdL st))
            rw [unhide HTX, if_neg hno]
            simp [List.append_assoc])
        by_cases hk1 : k = 1
        · subst hk1
          cases hvd : vdB sp n with
          | true =>
            rw [hvd] at CV
            have HNP := hide (unhide NOPUSH (by rw [hvd]; simp))
            clear NOPUSH
            go_wp2_with fail
            refine (unhide CV).mono ?_
            rintro e W4 ⟨rfl, hw4⟩
            obtain rfl : W3 = W4 := hw4.symm
            clear CV hw4
            go_wp2
            go_roundg (2 * (rest.count + cntL st) + (st.length + 1))
            case measure => exact (unhide HNP).2
            case rel => exact (unhide HNP).1
          | false =>
            rw [hvd] at CV
            have HVD := hide hvd
            clear NOPUSH hvd
            have CR := hide (hasraw_any g o 1 sp n W3.drew (cell_later (below_draws W3 1) c0) (cell_later (below_draws W3 1) c1) (cell_later (below_draws W3 1) c2))
            have HRW : Hid (rwB 1 sp n = rwB 1 sp n) := hide rfl
            obtain ⟨rw', hrwq⟩ : ∃ rw', rwB 1 sp n = rw' := ⟨_, rfl⟩
            rw [hrwq] at CR
            have HRWQ := hide hrwq
            clear hrwq HRW
            have hD : Below W3.heap.size W3 W3.drew := below_draws W3 1
            have HRD := hide (And.intro (owns_keepL (unhide HR3).1 (KeepL.below hD)) (Nat.le_trans (unhide HR3).2 hD.size))
            have HID := hide (unhide HLA _ _ _ (unhide HY).1 hD)
            have HBD := hide ((unhide HY).2.trans (hD.mono (unhide HY).2.size))
            have HK : Hid (KeepE g o n qk kl ck W3.drew) := hide ⟨cell_later hD c2, cell_later hD c5⟩
            have HKD3 := hide (show w0.heap.size ≤ w0.heap.size ∧ g < w0.heap.size from ⟨Nat.le_refl _, World.block_lt_of_cell? w0 ⟨g, o, none⟩ (unhide HKD).1.1⟩)
            have zn : n.size ≤ 5000 := (unhide HSM).1.2.1
            have z1 : ¬ 9223372036854775807 < 2 + n.size := by omega
            have z2 : ¬ 9223372036854775807 < 2 + n.size + 1 := by omega
            have HCE := hide hcei
            have AP := hide (run_append_own (P := Tryd.prog) (W3.drew.alloc (Obj.cells #[.slice qk kl ck, .bool rw', .string (⟨#[60, 47]⟩ ++ n ++ ⟨#[62]⟩)] 93)) w.heap.size 94 94 93 i0 (.agg #[.slice none 0 0, .bool false, .string ⟨#[]⟩]) 3 48 Tryd.underlying94 hi0 hi1 hi2 hi3 rfl (by decide) _ _ _ ((unhide HRD).1.alloc _) ⟨W3.drew.heap.size, 0, none⟩ 1 1 [.slice qk kl ck, .bool rw', .string (⟨#[60, 47]⟩ ++ n ++ ⟨#[62]⟩)] rfl (fun j u hj => lit3 hj) (fun u hu => by simp at hu; rcases hu with rfl | rfl | rfl <;> rfl) (by unfold maxLen; omega) (by omega) (by have := (unhide HRD).2; simp at this ⊢; omega))
            clear zn hD
            go_wp2_with fail
            refine (unhide CV).mono ?_
            rintro e W4 ⟨rfl, hw4⟩
            obtain rfl : W3 = W4 := hw4.symm
            clear CV hw4 c0 c1 c2 c5
            go_wp2_with fail
            have hSa := unhide HK
            refine wp_region_held (S := KeepE g o n qk kl ck) (by kernel_rfl) ?_
            change wpAnyH _ _ _ _ _ _ _ _ (World.drew _)
            refine wpAnyH_take (i := 0) (oi := { dst := some 66, op := _, type := _, pos := _, after := _, guard := _ }) (v := ?va0_1) rfl (by kernel_rfl) (by kernel_rfl) (by kernel_rfl) (fun _ _ _ h => h) (Or.inl ⟨by kernel_rfl, ?ha0_1⟩) hSa ?ra0_1
            case ha0_1 => first | (intro w hSw; obtain ⟨s2, s5⟩ := hSw; go_simp; done) | (intro w hSw; obtain ⟨s2, s5⟩ := hSw; go_simp; with_reducible rfl)
            try simp only [Act.put, List.setIfInBounds_toArray, List.set_cons_zero, List.set_cons_succ]
            refine wpAnyH_take (i := 1) (oi := { dst := some 67, op := _, type := _, pos := _, after := _, guard := _ }) (v := ?va1_2) rfl (by kernel_rfl) (by kernel_rfl) (by kernel_rfl) (fun _ _ _ h => h) (Or.inl ⟨by kernel_rfl, ?ha1_2⟩) hSa ?ra1_2
            case ha1_2 => first | (intro w hSw; obtain ⟨s2, s5⟩ := hSw; go_simp; done) | (intro w hSw; obtain ⟨s2, s5⟩ := hSw; go_simp; with_reducible rfl)
            try simp only [Act.put, List.setIfInBounds_toArray, List.set_cons_zero, List.set_cons_succ]
            refine wpAnyH_take (i := 2) (oi := { dst := some 68, op := _, type := _, pos := _, after := _, guard := _ }) (v := ?va2_3) rfl (by kernel_rfl) (by kernel_rfl) (by kernel_rfl) (fun _ _ _ h => h) (Or.inl ⟨by kernel_rfl, ?ha2_3⟩) hSa ?ra2_3
            case ha2_3 => first | (intro w hSw; obtain ⟨s2, s5⟩ := hSw; go_simp; done) | (intro w hSw; obtain ⟨s2, s5⟩ := hSw; go_simp; with_reducible rfl)
            try simp only [Act.put, List.setIfInBounds_toArray, List.set_cons_zero, List.set_cons_succ]
            refine wpAnyH_take (i := 3) (oi := { dst := some 69, op := _, type := _, pos := _, after := _, guard := _ }) (v := ?va3_4) rfl (by kernel_rfl) (by kernel_rfl) (by kernel_rfl) (fun _ _ _ h => h) (Or.inl ⟨by kernel_rfl, ?ha3_4⟩) hSa ?ra3_4
            case ha3_4 => first | (intro w hSw; obtain ⟨s2, s5⟩ := hSw; go_simp; done) | (intro w hSw; obtain ⟨s2, s5⟩ := hSw; go_simp; with_reducible rfl)
            try simp only [Act.put, List.setIfInBounds_toArray, List.set_cons_zero, List.set_cons_succ]
            refine wpAnyH_take (i := 4) (oi := { dst := some 70, op := _, type := _, pos := _, after := _, guard := _ }) (v := ?va4_5) rfl (by kernel_rfl) (by kernel_rfl) (by kernel_rfl) (fun _ _ _ h => h) (Or.inl ⟨by kernel_rfl, ?ha4_5⟩) hSa ?ra4_5
            case ha4_5 => first | (intro w hSw; obtain ⟨s2, s5⟩ := hSw; go_simp; done) | (intro w hSw; obtain ⟨s2, s5⟩ := hSw; go_simp; with_reducible rfl)
            try simp only [Act.put, List.setIfInBounds_toArray, List.set_cons_zero, List.set_cons_succ]
            refine wpAnyH_take (i := 5) (oi := { dst := some 71, op := _, type := _, pos := _, after := _, guard := _ }) (v := ?va5_6) rfl (by kernel_rfl) (by kernel_rfl) (by kernel_rfl) (fun _ _ _ h => h) (Or.inl ⟨by kernel_rfl, ?ha5_6⟩) hSa ?ra5_6
            case ha5_6 => first | (intro w hSw; obtain ⟨s2, s5⟩ := hSw; go_simp; done) | (intro w hSw; obtain ⟨s2, s5⟩ := hSw; go_simp; with_reducible rfl)
            try simp only [Act.put, List.setIfInBounds_toArray, List.set_cons_zero, List.set_cons_succ]
            refine wpAnyH_take (i := 7) (oi := { dst := some 73, op := _, type := _, pos := _, after := _, guard := _ }) (v := ?va7_7) rfl (by kernel_rfl) (by kernel_rfl) (by kernel_rfl) (fun _ _ _ h => h) (Or.inl ⟨by kernel_rfl, ?ha7_7⟩) hSa ?ra7_7
            case ha7_7 => first | (intro w hSw; obtain ⟨s2, s5⟩ := hSw; go_simp; done) | (intro w hSw; obtain ⟨s2, s5⟩ := hSw; go_simp; with_reducible rfl)
            try simp only [Act.put, List.setIfInBounds_toArray, List.set_cons_zero, List.set_cons_succ]
            refine wpAnyH_take (i := 8) (oi := { dst := some 74, op := _, type := _, pos := _, after := _, guard := _ }) (v := ?va8_8) rfl (by kernel_rfl) (by kernel_rfl) (by kernel_rfl) (fun _ _ _ h => h) (Or.inl ⟨by kernel_rfl, ?ha8_8⟩) hSa ?ra8_8
            case ha8_8 => first | (intro w hSw; obtain ⟨s2, s5⟩ := hSw; go_simp; done) | (intro w hSw; obtain ⟨s2, s5⟩ := hSw; go_simp; with_reducible rfl)
            try simp only [Act.put, List.setIfInBounds_toArray, List.set_cons_zero, List.set_cons_succ]
            refine wpAnyH_take (i := 9) (oi := { dst := some 75, op := _, type := _, pos := _, after := _, guard := _ }) (v := ?va9_9) rfl (by kernel_rfl) (by kernel_rfl) (by kernel_rfl) (fun _ _ _ h => h) (Or.inl ⟨by kernel_rfl, ?ha9_9⟩) hSa ?ra9_9
            case ha9_9 => first | (intro w hSw; obtain ⟨s2, s5⟩ := hSw; go_simp; done) | (intro w hSw; obtain ⟨s2, s5⟩ := hSw; go_simp; with_reducible rfl)
            try simp only [Act.put, List.setIfInBounds_toArray, List.set_cons_zero, List.set_cons_succ]
            refine wpAnyH_take (i := 10) (oi := { dst := some 76, op := _, type := _, pos := _, after := _, guard := _ }) (v := ?va10_10) rfl (by kernel_rfl) (by kernel_rfl) (by kernel_rfl) (fun _ _ _ h => h) (Or.inl ⟨by kernel_rfl, ?ha10_10⟩) hSa ?ra10_10
            case ha10_10 => first | (intro w hSw; obtain ⟨s2, s5⟩ := hSw; go_simp; done) | (intro w hSw; obtain ⟨s2, s5⟩ := hSw; go_simp; with_reducible rfl)
            try simp only [Act.put, List.setIfInBounds_toArray, List.set_cons_zero, List.set_cons_succ]
            refine wpAnyH_take (i := 11) (oi := { dst := some 77, op := _, type := _, pos := _, after := _, guard := _ }) (v := ?va11_11) rfl (by kernel_rfl) (by kernel_rfl) (by kernel_rfl) (fun _ _ _ h => h) (Or.inl ⟨by kernel_rfl, ?ha11_11⟩) hSa ?ra11_11
            case ha11_11 => first | (intro w hSw; obtain ⟨s2, s5⟩ := hSw; go_simp; done) | (intro w hSw; obtain ⟨s2, s5⟩ := hSw; go_simp; with_reducible rfl)
            try simp only [Act.put, List.setIfInBounds_toArray, List.set_cons_zero, List.set_cons_succ]
            refine wpAnyH_take (i := 12) (oi := { dst := some 78, op := _, type := _, pos := _, after := _, guard := _ }) (v := ?va12_12) rfl (by kernel_rfl) (by kernel_rfl) (by kernel_rfl) (fun _ _ _ h => h) (Or.inl ⟨by kernel_rfl, ?ha12_12⟩) hSa ?ra12_12
            case ha12_12 => first | (intro w hSw; obtain ⟨s2, s5⟩ := hSw; go_simp; done) | (intro w hSw; obtain ⟨s2, s5⟩ := hSw; go_simp; with_reducible rfl)
            try simp only [Act.put, List.setIfInBounds_toArray, List.set_cons_zero, List.set_cons_succ]
            refine wpAnyH_ready (rs := [6]) (by kernel_rfl) (by simp) ?_
            refine AllReadyH.cons rfl (fun K hK => ?_) AllReadyH.nil
            go_simp
            refine (unhide CR).mono ?_
            rintro e1 W5 ⟨rfl, hw5⟩
            subst hw5
            have hSa' := unhide HK
            clear CR
            refine hK _ _ hSa' (fun _ => ?_)
            clear hK K hSa
            have hSa := hSa'
            clear hSa'
            refine wpAnyH_take (i := 13) (oi := { dst := some 79, op := _, type := _, pos := _, after := _, guard := _ }) (v := ?va13_13) rfl (by kernel_rfl) (by kernel_rfl) (by kernel_rfl) (fun _ _ _ h => h) (Or.inl ⟨by kernel_rfl, ?ha13_13⟩) hSa ?ra13_13
            case ha13_13 => first | (intro w hSw; obtain ⟨s2, s5⟩ := hSw; go_simp; done) | (intro w hSw; obtain ⟨s2, s5⟩ := hSw; go_simp; with_reducible rfl)
            try simp only [Act.put, List.setIfInBounds_toArray, List.set_cons_zero, List.set_cons_succ]
            refine wpAnyH_ready (rs := [14]) (by kernel_rfl) (by simp) ?_
            refine AllReadyH.cons rfl (fun K hK => ?_) AllReadyH.nil
            go_simp
            have hSa' : KeepE g o n qk kl ck (W3.drew.alloc (Obj.cells #[.slice qk kl ck, .bool rw', .string (⟨#[60, 47]⟩ ++ n ++ ⟨#[62]⟩)] 93)) := by
              have hA := (Below.refl W3.drew.heap.size W3.drew).alloc (Nat.le_refl _) (Obj.cells #[.slice qk kl ck, .bool rw', .string (⟨#[60, 47]⟩ ++ n ++ ⟨#[62]⟩)] 93)
              exact ⟨cell_later hA (unhide HK).1, cell_later hA (unhide HK).2⟩
            refine hK _ _ hSa' (fun _ => ?_)
            clear hK K hSa
            have hSa := hSa'
            clear hSa'
            refine wpAnyH_ready (rs := [15]) (by kernel_rfl) (by simp) ?_
            refine AllReadyH.cons rfl (fun K hK => ?_) AllReadyH.nil
            obtain ⟨v6, w6, hr, hown, hgr, hnil⟩ := unhide AP
            refine step_append_run (o := { dst := some 81, op := _, type := _, pos := _, after := _, guard := _ }) rfl (.tmp 66) (.tmp 80) 94 94 rfl (.slice (some ⟨b, 0, none⟩) (sl + 1) capb) (.slice (some ⟨W3.drew.heap.size, 0, none⟩) 1 1) (by simp [Act.eval, Act.put]) (by simp [Act.eval, Act.put]) hr ?_
            obtain ⟨a6, c6, hv6⟩ := slice_n hown
            subst hv6
            simp only [Act.put, List.setIfInBounds_toArray, List.set_cons_zero, List.set_cons_succ]
            have hbL := (unhide HBD).alloc (unhide HBD).size (Obj.cells #[.slice qk kl ck, .bool rw', .string (⟨#[60, 47]⟩ ++ n ++ ⟨#[62]⟩)] 93)
            have hlb : ∀ j, some j = (Value.slice (some ⟨b, 0, none⟩) (sl + 1) capb).ownBlock → w.heap.size ≤ j := fun j hj => ((unhide HRD).1.lt j hj.symm).1
            have hb6 := hbL.grown hgr hbL.size (fun j hj => by have h1 := hlb _ hj.symm; have h2 := (unhide HX).2.2.2.2.2.2.2.1; omega)
            have hI6 : Inv (l ++ ah) w6 := unhide HST _ _ _ (unhide HID) (((Lib.OthersKept.refl _ _ _).alloc _).grown hgr (fun g hg => by
              cases hg
              obtain ⟨c, hc⟩ := row_tyL ((unhide HRD).1.alloc (Obj.cells #[.slice qk kl ck, .bool rw', .string (⟨#[60, 47]⟩ ++ n ++ ⟨#[62]⟩)] 93))
              exact ⟨c, _, hc⟩))
            have hs6 : w.heap.size ≤ w6.heap.size := by have h1 := hgr.size; have h2 := (unhide HRD).2; simp at h1 h2; omega
            have HZ6 := hide (And.intro hown (And.intro hI6 (And.intro hb6 hs6)))
            have hSa' : KeepE g o n qk kl ck w6 := by
              have hl6 := (unhide HKD).below hb6
              obtain ⟨⟨_, _, y2, _, _, ⟨qk2, ck2, y5, _⟩⟩, _⟩ := hl6
              refine ⟨y2, ?_⟩
              have hA := (Below.refl W3.drew.heap.size W3.drew).alloc (Nat.le_refl _) (Obj.cells #[.slice qk kl ck, .bool rw', .string (⟨#[60, 47]⟩ ++ n ++ ⟨#[62]⟩)] 93)
              have hg6 : w6.heap[g]? = (W3.drew.alloc (Obj.cells #[.slice qk kl ck, .bool rw', .string (⟨#[60, 47]⟩ ++ n ++ ⟨#[62]⟩)] 93)).heap[g]? := (hb6.block g (unhide HKD3).2).trans (hbL.block g (unhide HKD3).2).symm
              exact (World.cell?_of_block (a := ⟨g, o + 5, none⟩) hg6).trans (cell_later hA (unhide HK).2)
            clear hr hown hgr hnil hbL hlb hb6 hI6 hs6 AP
            refine hK _ _ hSa' (fun _ => ?_)
            clear hK K hSa
            have hSa := hSa'
            clear hSa'
            refine wpAnyH_take (i := 16) (oi := { dst := some 4, op := _, type := _, pos := _, after := _, guard := _ }) (v := ?va16_14) rfl (by kernel_rfl) (by kernel_rfl) (by kernel_rfl) (fun _ _ _ h => h) (Or.inl ⟨by kernel_rfl, ?ha16_14⟩) hSa ?ra16_14
            case ha16_14 => first | (intro w hSw; obtain ⟨s2, s5⟩ := hSw; go_simp; done) | (intro w hSw; obtain ⟨s2, s5⟩ := hSw; go_simp; with_reducible rfl)
            try simp only [Act.put, List.setIfInBounds_toArray, List.set_cons_zero, List.set_cons_succ]
            refine wpAnyH_done (by kernel_rfl) ?_ _
            clear hSa HK z1 z2 j1 j2 hkl hln hcbi hcei hrl e1 hb0 hcap hc
            try simp only [Act.put, List.setIfInBounds_toArray, List.set_cons_zero, List.set_cons_succ]
            go_wp2
            obtain ⟨hrow6, hI6, hb6, hs6⟩ := unhide HZ6
            obtain ⟨_, _, hsz, hc1, hc2, hgk, htd, hB1, _⟩ := unhide HX
            obtain ⟨hrlq, hslq, hklq⟩ := unhide HQ
            simp only [cntL, Forest.count, List.length_cons] at hc1 hc2 hgk
            go_roundg (2 * (kids.count + (rest.count + cntL st)) + (st.length + 1 + 1))
            case measure => omega
            case rel =>
              refine ⟨⟨kids, qk, ck, rw', ⟨#[60, 47]⟩ ++ n ++ ⟨#[62]⟩⟩ :: ⟨rest, qr, ce - 1, raw, en⟩ :: st, l ++ ah, by show kids.count + (rest.count + cntL st) ≤ _; omega, by show st.length + 1 + 1 + (kids.count + (rest.count + cntL st)) ≤ _; omega, rfl, fun e he => ?_, ?_, ?_, hI6, hb6, hB1, hs6⟩
              · rcases List.mem_cons.1 he with rfl | he
                · refine ⟨?_, by show kids.len ≤ ck; rw [hklq]; exact (unhide HFK).2, (unhide HSM).2.1, by show (⟨#[60, 47]⟩ ++ n ++ ⟨#[62]⟩ : ByteArray).size ≤ 10000; have := (unhide HSM).1.2.1; rw [ByteArray.size_append, ByteArray.size_append]; show 2 + _ + 1 ≤ _; omega⟩
                  exact unhide HFW
                rcases List.mem_cons.1 he with rfl | he
                · exact ⟨unhide HQR, by show rest.len ≤ ce - 1; have := unhide HCE; omega, (unhide HSM).2.2, unhide HEN⟩
                · exact unhide HOK e he
              · rw [rowL, rowL, List.append_assoc, List.length_cons, List.length_cons, hslq]
                show w6.ownsRow _ _ _ _ _ (rowL st ++ ([.slice qr rest.len (ce - 1), .bool raw, .string en] ++ [.slice qk kids.len ck, .bool rw', .string (⟨#[60, 47]⟩ ++ n ++ ⟨#[62]⟩)]))
                rw [hrlq, hklq, ← List.append_assoc]; exact hrow6
              · rw [← htd]
                show l ++ ah ++ (txF kids rw' ++ ((⟨#[60, 47]⟩ ++ n ++ ⟨#[62]⟩ : ByteArray).data.toList ++ (txF rest raw ++ (en.data.toList ++ tdL st)))) = l ++ (txF (.cons 1 sp n ats tx kids rest) raw ++ (en.data.toList ++ tdL st))
                rw [unhide HTX, if_pos ⟨by trivial, unhide HVD⟩, end_bs, bs_toList, unhide HRWQ]
                simp only [List.append_assoc]
        · have e2 : (k == 1) = false := beq_eq_false_iff_ne.2 hk1
          have HNP := hide (unhide NOPUSH (fun h => hk1 h.1))
          clear NOPUSH hk1 CV
          go_wp2
          go_roundg (2 * (rest.count + cntL st) + (st.length + 1))
          case measure => exact (unhide HNP).2
          case rel => exact (unhide HNP).1
set_option maxHeartbeats 2000000 in
set_option maxRecDepth 100000 in
theorem write_size (Inv : List UInt8 → World → Prop) (G : Nat) (w0 : World) (fin : List UInt8) (ht : Tabs w0)
    (hstab : ∀ l w w', Inv l w → Lib.OthersKept 93 none w w' → Inv l w')
    (hlat : ∀ l w w', Inv l w → Below w.heap.size w w' → Inv l w')
    (C : ∀ (l : List UInt8) (s : ByteArray) (W : World), Inv l W → Below w0.heap.size w0 W → l.length + s.size ≤ fin.length → Calls Tryd.prog 44 #[.string s, .pointer (some ⟨G, 0, none⟩)] W fun e w' => e = .returned (.tuple #[]) ∧ Inv (l ++ s.data.toList) w' ∧ Below w0.heap.size w0 w' ∧ KeepL W w')
    (f : Forest) (q : Option Addr) (cap : Nat) (w : World) (hf : Fo q f w0) (hsm : SmF f) (hcap : f.len ≤ cap) (hc : f.count ≤ 1000000) (hfin : txF f false = fin) (hI : Inv [] w) (hb : Below w0.heap.size w0 w) :
    Calls Tryd.prog 40 #[.slice q f.len cap, .func (.func 44) #[] #[.pointer (some ⟨G, 0, none⟩)]] w fun e w' => e = .returned (.tuple #[]) ∧ Inv fin w' ∧ Below w0.heap.size w0 w' := by
  have HC := hide C
  have HST := hide hstab
  have HLA := hide hlat
  have HT := hide ht
  obtain ⟨i0, hi0, hi1, hi2, hi3⟩ := info_parts infoLevel0
  have hrow0 : (w.alloc (Obj.cells #[.slice q f.len cap, .bool false, .string ⟨#[]⟩] 93)).ownsRow w.heap.size 93 3 (.slice (some ⟨w.heap.size, 0, none⟩) 1 1) 1 [.slice q f.len cap, .bool false, .string ⟨#[]⟩] :=
    ⟨rfl, Or.inr ⟨w.heap.size, 1, #[.slice q f.len cap, .bool false, .string ⟨#[]⟩], rfl, Nat.le_refl _, Blk.new w _ _, Nat.le_refl _, by unfold maxLen; omega, rfl, rfl⟩⟩
  have HAT : Hid (WrAt Inv w0 w.heap.size fin (2 * f.count + 1) (.slice (some ⟨w.heap.size, 0, none⟩) 1 1) (w.alloc (Obj.cells #[.slice q f.len cap, .bool false, .string ⟨#[]⟩] 93))) := hide ⟨[⟨f, q, cap, false, ⟨#[]⟩⟩], [], by simpa [cntL] using hc, by simp [cntL]; omega, by simp [cntL], fun e he => by rw [List.mem_singleton.1 he]; exact ⟨hf, hcap, hsm, by show (0 : Nat) ≤ _; omega⟩, hrow0, by simp [tdL]; exact hfin, hstab [] w _ hI ((Lib.OthersKept.refl _ _ _).alloc _), hb.alloc hb.size _, hb.size, by simp⟩
  clear C hstab hlat ht hrow0 hI hf hsm hfin hb
  go_enter Tryd.func40, Tryd.ntmps40
  go_wp2
  go_loopg [4] (2 * f.count + 1) (fun gk left wr => WrAt Inv w0 w.heap.size fin gk left wr)
  case atStart => exact unhide HAT
  case round =>
    clear HAT
    obtain ⟨st, l, hc1, hc2, hgk, hok, hrow, htd, hinv, hbw, hB1, hsz⟩ := hrel
    match st, hc1, hc2, hgk, hok, hrow, htd with
    | [], hc1, hc2, hgk, hok, hrow, htd =>
      obtain ⟨a4, cap4, rfl⟩ := slice_n hrow
      have HF : Hid (l = fin) := hide (by simpa [tdL] using htd)
      have HX := hide (And.intro hinv hbw)
      simp only [List.length_nil]
      clear htd hok hrow hinv hbw
      go_wp2
      refine bodyPost_end (v := .tuple #[]) (results_none Tryd.results40 _ _ _) rfl ?_
      exact ⟨rfl, by rw [← unhide HF]; exact (unhide HX).1, (unhide HX).2⟩
    | ⟨fo, qe, ce, raw, en⟩ :: st, hc1, hc2, hgk, hok, hrow, htd =>
      rw [rowL] at hrow
      obtain ⟨b, capb, rfl, hbb, hcb, ⟨x0, x1, x2⟩, cf0, hblt, hpop, hset⟩ := row_last3 hrow (rowL_len st)
      have HTY := hide (row_tyL hrow)
      obtain ⟨hfo, hce, hsm, hen⟩ := hok _ (List.mem_cons_self ..)
      have HOK := hide (show LevOk w0 st from fun e he => hok e (List.mem_cons_of_mem _ he))
      have hln : (st.length : Int) + 1 ≤ 1000001 := by simp at hc2; omega
      have hcbi : (st.length : Int) + 1 ≤ (capb : Int) := by omega
      dsimp only at hfo hce hsm hen x0 x1 x2
      cases fo with
      | nil =>
        have hl' : l.length + en.size ≤ fin.length := by
          rw [← htd]
          have := data_len en
          simp only [tdL, txF, List.nil_append, List.length_append]
          omega
        have CE := hide (unhide HC l en wr hinv hbw hl')
        have HT2 : Hid (l ++ en.data.toList ++ tdL st = fin) := hide (by rw [← htd]; simp [tdL, txF])
        have HX := hide (And.intro hsz (And.intro hpop (And.intro hB1 hbb)))
        have hg' : 2 * cntL st + st.length < gk := by simp [cntL, Forest.count] at hgk; omega
        have hc1' : cntL st ≤ 1000000 := by simp [cntL, Forest.count] at hc1; omega
        have hc2' : st.length + cntL st ≤ 1000001 := by simp [cntL, Forest.count] at hc2; omega
        simp only [Forest.len] at x0
        clear htd hok hrow hinv hbw hset hpop hgk hc1 hc2 hl' hfo hce hsm hB1
        go_wp2_with fail
        refine (unhide CE).mono ?_
        rintro e W2 ⟨rfl, hI2, hb2, hk2⟩
        have HY := hide (And.intro hI2 (And.intro hb2 (And.intro (owns_keepL (unhide HX).2.1 hk2) (Nat.le_trans (unhide HX).1 hk2.1))))
        clear hI2 hb2 hk2 CE x0 x1 x2 cf0
        go_wp2
        go_roundg (2 * cntL st + st.length)
        case measure => exact hg'
        case rel => exact ⟨st, _, hc1', hc2', rfl, unhide HOK, (unhide HY).2.2.1, unhide HT2, (unhide HY).1, (unhide HY).2.1, (unhide HX).2.2.1, (unhide HY).2.2.2⟩
      | cons k sp n ats tx kids rest =>
        have hsm' : SmF (.cons k sp n ats tx kids rest) := hsm
        have HSM := hide hsm'
        rcases hfo with h | ⟨g, o, hq, hl⟩
        · cases h
        have hq' : qe = some ⟨g, o, none⟩ := hq
        subst hq'
        have hce' : rest.len + 1 ≤ ce := hce
        have hcei : (rest.len : Int) + 1 ≤ (ce : Int) := by omega
        have hrl : (rest.len : Int) + 1 ≤ 1000001 := by
          have := rest.len_count
          simp [cntL, Forest.count] at hc1
          omega
        have hkl : kids.len ≤ 1000000 := by
          have := kids.len_count
          simp [cntL, Forest.count] at hc1
          omega
        simp only [Forest.len] at x0
        have HP := hide hset
        have e1 : ((rest.len : Int) + 1 == 0) = false := beq_eq_false_iff_ne.2 (by omega)
        have hl1 : l.length + (ahL k n.data.toList ats tx.data.toList raw).length ≤ fin.length := by
          rw [← htd]
          simp only [tdL, txF, List.length_append]
          omega
        have HX := hide (And.intro hinv (And.intro hbw (And.intro hsz (And.intro hc1 (And.intro hc2 (And.intro hgk (And.intro htd (And.intro hB1 hl1))))))))
        have HKD := hide hl
        have HEN := hide hen
        clear hok hrow hpop hce hset hinv hbw hsz hc1 hc2 hgk htd hl hce' hl1 hB1 hsm hsm' hen hq
        obtain ⟨rl, hrlq⟩ : ∃ rl, rest.len = rl := ⟨_, rfl⟩
        obtain ⟨sl, hslq⟩ : ∃ sl, st.length = sl := ⟨_, rfl⟩
        obtain ⟨kl, hklq⟩ : ∃ kl, kids.len = kl := ⟨_, rfl⟩
        rw [hrlq] at x0 hcei hrl e1
        rw [hklq] at hkl
        rw [hslq] at x0 x1 x2 cf0 hln hcbi HP hcb
        rw [hslq]
        have HQ := hide (And.intro hrlq (And.intro hslq hklq))
        clear hrlq hslq hklq
        have j1 : (1 : Int) ≤ (rl : Int) + 1 := by omega
        have j2 : (0 : Int) < (rl : Int) + 1 := by omega
        go_upto_region 8 with fail
        generalize hqr : (if ce = 1 then some (⟨g, o, none⟩ : Addr) else some ⟨g, o + 6, none⟩) = qr at *
        have HQR : Hid (Fo qr rest w0) := hide (by
          by_cases h1 : ce = 1
          · left
            have hr0 : rest.len = 0 := by have := (unhide HQ).1; omega
            cases rest with
            | nil => rfl
            | cons _ _ _ _ _ _ r => simp [Forest.len] at hr0
          · right; rw [if_neg h1] at hqr; exact ⟨g, o + 6, hqr.symm, (unhide HKD).2⟩)
        clear hqr
        have hb0 : w0.heap.size ≤ b := by have := (unhide HX).2.2.2.2.2.2.2.1; omega
        have hX2 := (unhide HX).2.1.setCell (p := ⟨b, sl * 3, none⟩) hb0 (.slice qr rl (ce - 1))
        have y1 : (wr.setCell ⟨b, sl * 3, none⟩ (.slice qr rl (ce - 1))).cell? ⟨b, sl * 3 + 1, none⟩ = some (.bool raw) := by
          rw [World.cell?_setCell_other _ _ _ _ (by simp)]; exact x1
        have HX1 := hide (And.intro (unhide HST l wr _ (unhide HX).1 (kept_setL (unhide HTY) (o := sl * 3) (.slice qr rl (ce - 1)))) (And.intro hX2 (And.intro (unhide HP (.slice qr rl (ce - 1))) (show w.heap.size ≤ (wr.setCell ⟨b, sl * 3, none⟩ (.slice qr rl (ce - 1))).heap.size by have := (unhide HX).2.2.1; simp; omega))))
        have CA := hide (ahead_any g o k sp n ats tx kids rest raw _ ((unhide HT).below hX2) ((unhide HKD).below hX2) (unhide HSM).1.2.2.1 (by have := (unhide HSM).1.2.1; omega) (by have := (unhide HSM).1.1; omega))
        clear hX2 x0 x1 x2 cf0
        have HAL : Hid ((bs (ahL k n.data.toList ats tx.data.toList raw)).size = (ahL k n.data.toList ats tx.data.toList raw).length ∧ (bs (ahL k n.data.toList ats tx.data.toList raw)).data.toList = ahL k n.data.toList ats tx.data.toList raw) := hide ⟨bs_size _, bs_toList _⟩
        have HTX : Hid (txF (.cons k sp n ats tx kids rest) raw = ahL k n.data.toList ats tx.data.toList raw ++ ((if k = 1 ∧ vdB sp n = false then txF kids (rwB k sp n) ++ endL n.data.toList else []) ++ txF rest raw)) := hide rfl
        generalize ahL k n.data.toList ats tx.data.toList raw = ah at *
        go_wp2_with fail
        refine (unhide CA).mono ?_
        rintro e W2 ⟨rfl, hb2⟩
        have CP := hide (unhide HC l (bs ah) W2 (unhide HLA l _ _ (unhide HX1).1 hb2) ((unhide HX1).2.1.trans (hb2.mono (unhide HX1).2.1.size)) (by rw [(unhide HAL).1]; exact (unhide HX).2.2.2.2.2.2.2.2))
        rw [(unhide HAL).2] at CP
        have HR2 := hide (And.intro (owns_keepL (unhide HX1).2.2.1 (KeepL.below hb2)) (Nat.le_trans (unhide HX1).2.2.2 hb2.size))
        clear CA hb2 y1
        go_wp2_with fail
        refine (unhide CP).mono ?_
        rintro e W3 ⟨rfl, hI3, hb3, hk3⟩
        have hl3 := (unhide HKD).below hb3
        obtain ⟨⟨_, _, _, _, _, ⟨qk, ck, c5', hck, hfk⟩⟩, _⟩ := unhide HKD
        have c5 := cell_later hb3 c5'
        obtain ⟨⟨c0, c1, c2, _⟩, _⟩ := hl3
        have HFW := hide (show Fo qk kids w0 from hfk)
        clear c5'
        rw [(unhide HQ).2.2] at c5 hck
        have HFK := hide (And.intro True.intro hck)
        have HR3 := hide (And.intro (owns_keepL (unhide HR2).1 hk3) (Nat.le_trans (unhide HR2).2 hk3.1))
        have HY := hide (And.intro hI3 hb3)
        clear CP hI3 hb3 hk3 HR2 HX1 hfk hck HAL
        have CV := hide (isvoid_any g o sp n W3 c1 c2)
        have NOPUSH : Hid (¬ (k = 1 ∧ vdB sp n = false) → WrAt Inv w0 w.heap.size fin (2 * (rest.count + cntL st) + (st.length + 1)) (.slice (some ⟨b, 0, none⟩) (sl + 1) capb) W3 ∧ 2 * (rest.count + cntL st) + (st.length + 1) < gk) := hide (fun hno => by
          obtain ⟨_, _, hsz, hc1, hc2, hgk, htd, hB1, _⟩ := unhide HX
          obtain ⟨hrlq, hslq, _⟩ := unhide HQ
          simp only [cntL, Forest.count, List.length_cons] at hc1 hc2 hgk
          refine ⟨⟨⟨rest, qr, ce - 1, raw, en⟩ :: st, l ++ ah, by show rest.count + cntL st ≤ _; omega, by show st.length + 1 + (rest.count + cntL st) ≤ _; omega, rfl, fun e he => ?_, ?_, ?_, (unhide HY).1, (unhide HY).2, hB1, (unhide HR3).2⟩, by omega⟩
          · rcases List.mem_cons.1 he with rfl | he
            · exact ⟨unhide HQR, by show rest.len ≤ ce - 1; omega, (unhide HSM).2.2, unhide HEN⟩
            · exact unhide HOK e he
          · rw [rowL, List.length_cons, hslq]
            show W3.ownsRow _ _ _ _ _ (rowL st ++ [.slice qr rest.len (ce - 1), .bool raw, .string en])
            rw [hrlq]; exact (unhide HR3).1
          · rw [← htd]
            show l ++ ah ++ (txF rest raw ++ (en.data.toList ++ tdL st)) = l ++ (txF (.cons k sp n ats tx kids rest) raw ++ (en.data.toList ++ tdL st))
            rw [unhide HTX, if_neg hno]
            simp [List.append_assoc])
        by_cases hk1 : k = 1
        · subst hk1
          cases hvd : vdB sp n with
          | true =>
            rw [hvd] at CV
            have HNP := hide (unhide NOPUSH (by rw [hvd]; simp))
            clear NOPUSH
            go_wp2_with fail
            refine (unhide CV).mono ?_
            rintro e W4 ⟨rfl, hw4⟩
            obtain rfl : W3 = W4 := hw4.symm
            clear CV hw4
            go_wp2
            go_roundg (2 * (rest.count + cntL st) + (st.length + 1))
            case measure => exact (unhide HNP).2
            case rel => exact (unhide HNP).1
          | false =>
            rw [hvd] at CV
            have HVD := hide hvd
            clear NOPUSH hvd
            have CR := hide (hasraw_any g o 1 sp n W3.drew (cell_later (below_draws W3 1) c0) (cell_later (below_draws W3 1) c1) (cell_later (below_draws W3 1) c2))
            have HRW : Hid (rwB 1 sp n = rwB 1 sp n) := hide rfl
            obtain ⟨rw', hrwq⟩ : ∃ rw', rwB 1 sp n = rw' := ⟨_, rfl⟩
            rw [hrwq] at CR
            have HRWQ := hide hrwq
            clear hrwq HRW
            have hD : Below W3.heap.size W3 W3.drew := below_draws W3 1
            have HRD := hide (And.intro (owns_keepL (unhide HR3).1 (KeepL.below hD)) (Nat.le_trans (unhide HR3).2 hD.size))
            have HID := hide (unhide HLA _ _ _ (unhide HY).1 hD)
            have HBD := hide ((unhide HY).2.trans (hD.mono (unhide HY).2.size))
            have HK : Hid (KeepE g o n qk kl ck W3.drew) := hide ⟨cell_later hD c2, cell_later hD c5⟩
            have HKD3 := hide (show w0.heap.size ≤ w0.heap.size ∧ g < w0.heap.size from ⟨Nat.le_refl _, World.block_lt_of_cell? w0 ⟨g, o, none⟩ (unhide HKD).1.1⟩)
            have zn : n.size ≤ 5000 := (unhide HSM).1.2.1
            have z1 : ¬ 9223372036854775807 < 2 + n.size := by omega
            have z2 : ¬ 9223372036854775807 < 2 + n.size + 1 := by omega
            have HCE := hide hcei
            have AP := hide (run_append_own (P := Tryd.prog) (W3.drew.alloc (Obj.cells #[.slice qk kl ck, .bool rw', .string (⟨#[60, 47]⟩ ++ n ++ ⟨#[62]⟩)] 93)) w.heap.size 94 94 93 i0 (.agg #[.slice none 0 0, .bool false, .string ⟨#[]⟩]) 3 48 Tryd.underlying94 hi0 hi1 hi2 hi3 rfl (by decide) _ _ _ ((unhide HRD).1.alloc _) ⟨W3.drew.heap.size, 0, none⟩ 1 1 [.slice qk kl ck, .bool rw', .string (⟨#[60, 47]⟩ ++ n ++ ⟨#[62]⟩)] rfl (fun j u hj => lit3 hj) (fun u hu => by simp at hu; rcases hu with rfl | rfl | rfl <;> rfl) (by unfold maxLen; omega) (by omega) (by have := (unhide HRD).2; simp at this ⊢; omega))
            clear zn hD
            go_wp2_with fail
            refine (unhide CV).mono ?_
            rintro e W4 ⟨rfl, hw4⟩
            obtain rfl : W3 = W4 := hw4.symm
            clear CV hw4 c0 c1 c2 c5
            go_wp2_with fail
            have hSa := unhide HK
            refine wp_region_held (S := KeepE g o n qk kl ck) (by kernel_rfl) ?_
            change wpAnyH _ _ _ _ _ _ _ _ (World.drew _)
            refine wpAnyH_take (i := 0) (oi := { dst := some 66, op := _, type := _, pos := _, after := _, guard := _ }) (v := ?va0_15) rfl (by kernel_rfl) (by kernel_rfl) (by kernel_rfl) (fun _ _ _ h => h) (Or.inl ⟨by kernel_rfl, ?ha0_15⟩) hSa ?ra0_15
            case ha0_15 => first | (intro w hSw; obtain ⟨s2, s5⟩ := hSw; go_simp; done) | (intro w hSw; obtain ⟨s2, s5⟩ := hSw; go_simp; with_reducible rfl)
            try simp only [Act.put, List.setIfInBounds_toArray, List.set_cons_zero, List.set_cons_succ]
            refine wpAnyH_take (i := 1) (oi := { dst := some 67, op := _, type := _, pos := _, after := _, guard := _ }) (v := ?va1_16) rfl (by kernel_rfl) (by kernel_rfl) (by kernel_rfl) (fun _ _ _ h => h) (Or.inl ⟨by kernel_rfl, ?ha1_16⟩) hSa ?ra1_16
            case ha1_16 => first | (intro w hSw; obtain ⟨s2, s5⟩ := hSw; go_simp; done) | (intro w hSw; obtain ⟨s2, s5⟩ := hSw; go_simp; with_reducible rfl)
            try simp only [Act.put, List.setIfInBounds_toArray, List.set_cons_zero, List.set_cons_succ]
            refine wpAnyH_take (i := 2) (oi := { dst := some 68, op := _, type := _, pos := _, after := _, guard := _ }) (v := ?va2_17) rfl (by kernel_rfl) (by kernel_rfl) (by kernel_rfl) (fun _ _ _ h => h) (Or.inl ⟨by kernel_rfl, ?ha2_17⟩) hSa ?ra2_17
            case ha2_17 => first | (intro w hSw; obtain ⟨s2, s5⟩ := hSw; go_simp; done) | (intro w hSw; obtain ⟨s2, s5⟩ := hSw; go_simp; with_reducible rfl)
            try simp only [Act.put, List.setIfInBounds_toArray, List.set_cons_zero, List.set_cons_succ]
            refine wpAnyH_take (i := 3) (oi := { dst := some 69, op := _, type := _, pos := _, after := _, guard := _ }) (v := ?va3_18) rfl (by kernel_rfl) (by kernel_rfl) (by kernel_rfl) (fun _ _ _ h => h) (Or.inl ⟨by kernel_rfl, ?ha3_18⟩) hSa ?ra3_18
            case ha3_18 => first | (intro w hSw; obtain ⟨s2, s5⟩ := hSw; go_simp; done) | (intro w hSw; obtain ⟨s2, s5⟩ := hSw; go_simp; with_reducible rfl)
            try simp only [Act.put, List.setIfInBounds_toArray, List.set_cons_zero, List.set_cons_succ]
            refine wpAnyH_take (i := 4) (oi := { dst := some 70, op := _, type := _, pos := _, after := _, guard := _ }) (v := ?va4_19) rfl (by kernel_rfl) (by kernel_rfl) (by kernel_rfl) (fun _ _ _ h => h) (Or.inl ⟨by kernel_rfl, ?ha4_19⟩) hSa ?ra4_19
            case ha4_19 => first | (intro w hSw; obtain ⟨s2, s5⟩ := hSw; go_simp; done) | (intro w hSw; obtain ⟨s2, s5⟩ := hSw; go_simp; with_reducible rfl)
            try simp only [Act.put, List.setIfInBounds_toArray, List.set_cons_zero, List.set_cons_succ]
            refine wpAnyH_take (i := 5) (oi := { dst := some 71, op := _, type := _, pos := _, after := _, guard := _ }) (v := ?va5_20) rfl (by kernel_rfl) (by kernel_rfl) (by kernel_rfl) (fun _ _ _ h => h) (Or.inl ⟨by kernel_rfl, ?ha5_20⟩) hSa ?ra5_20
            case ha5_20 => first | (intro w hSw; obtain ⟨s2, s5⟩ := hSw; go_simp; done) | (intro w hSw; obtain ⟨s2, s5⟩ := hSw; go_simp; with_reducible rfl)
            try simp only [Act.put, List.setIfInBounds_toArray, List.set_cons_zero, List.set_cons_succ]
            refine wpAnyH_take (i := 7) (oi := { dst := some 73, op := _, type := _, pos := _, after := _, guard := _ }) (v := ?va7_21) rfl (by kernel_rfl) (by kernel_rfl) (by kernel_rfl) (fun _ _ _ h => h) (Or.inl ⟨by kernel_rfl, ?ha7_21⟩) hSa ?ra7_21
            case ha7_21 => first | (intro w hSw; obtain ⟨s2, s5⟩ := hSw; go_simp; done) | (intro w hSw; obtain ⟨s2, s5⟩ := hSw; go_simp; with_reducible rfl)
            try simp only [Act.put, List.setIfInBounds_toArray, List.set_cons_zero, List.set_cons_succ]
            refine wpAnyH_take (i := 8) (oi := { dst := some 74, op := _, type := _, pos := _, after := _, guard := _ }) (v := ?va8_22) rfl (by kernel_rfl) (by kernel_rfl) (by kernel_rfl) (fun _ _ _ h => h) (Or.inl ⟨by kernel_rfl, ?ha8_22⟩) hSa ?ra8_22
            case ha8_22 => first | (intro w hSw; obtain ⟨s2, s5⟩ := hSw; go_simp; done) | (intro w hSw; obtain ⟨s2, s5⟩ := hSw; go_simp; with_reducible rfl)
            try simp only [Act.put, List.setIfInBounds_toArray, List.set_cons_zero, List.set_cons_succ]
            refine wpAnyH_take (i := 9) (oi := { dst := some 75, op := _, type := _, pos := _, after := _, guard := _ }) (v := ?va9_23) rfl (by kernel_rfl) (by kernel_rfl) (by kernel_rfl) (fun _ _ _ h => h) (Or.inl ⟨by kernel_rfl, ?ha9_23⟩) hSa ?ra9_23
            case ha9_23 => first | (intro w hSw; obtain ⟨s2, s5⟩ := hSw; go_simp; done) | (intro w hSw; obtain ⟨s2, s5⟩ := hSw; go_simp; with_reducible rfl)
            try simp only [Act.put, List.setIfInBounds_toArray, List.set_cons_zero, List.set_cons_succ]
            refine wpAnyH_take (i := 10) (oi := { dst := some 76, op := _, type := _, pos := _, after := _, guard := _ }) (v := ?va10_24) rfl (by kernel_rfl) (by kernel_rfl) (by kernel_rfl) (fun _ _ _ h => h) (Or.inl ⟨by kernel_rfl, ?ha10_24⟩) hSa ?ra10_24
            case ha10_24 => first | (intro w hSw; obtain ⟨s2, s5⟩ := hSw; go_simp; done) | (intro w hSw; obtain ⟨s2, s5⟩ := hSw; go_simp; with_reducible rfl)
            try simp only [Act.put, List.setIfInBounds_toArray, List.set_cons_zero, List.set_cons_succ]
            refine wpAnyH_take (i := 11) (oi := { dst := some 77, op := _, type := _, pos := _, after := _, guard := _ }) (v := ?va11_25) rfl (by kernel_rfl) (by kernel_rfl) (by kernel_rfl) (fun _ _ _ h => h) (Or.inl ⟨by kernel_rfl, ?ha11_25⟩) hSa ?ra11_25
            case ha11_25 => first | (intro w hSw; obtain ⟨s2, s5⟩ := hSw; go_simp; done) | (intro w hSw; obtain ⟨s2, s5⟩ := hSw; go_simp; with_reducible rfl)
            try simp only [Act.put, List.setIfInBounds_toArray, List.set_cons_zero, List.set_cons_succ]
            refine wpAnyH_take (i := 12) (oi := { dst := some 78, op := _, type := _, pos := _, after := _, guard := _ }) (v := ?va12_26) rfl (by kernel_rfl) (by kernel_rfl) (by kernel_rfl) (fun _ _ _ h => h) (Or.inl ⟨by kernel_rfl, ?ha12_26⟩) hSa ?ra12_26
            case ha12_26 => first | (intro w hSw; obtain ⟨s2, s5⟩ := hSw; go_simp; done) | (intro w hSw; obtain ⟨s2, s5⟩ := hSw; go_simp; with_reducible rfl)
            try simp only [Act.put, List.setIfInBounds_toArray, List.set_cons_zero, List.set_cons_succ]
            refine wpAnyH_ready (rs := [6]) (by kernel_rfl) (by simp) ?_
            refine AllReadyH.cons rfl (fun K hK => ?_) AllReadyH.nil
            go_simp
            refine (unhide CR).mono ?_
            rintro e1 W5 ⟨rfl, hw5⟩
            subst hw5
            have hSa' := unhide HK
            clear CR
            refine hK _ _ hSa' (fun _ => ?_)
            clear hK K hSa
            have hSa := hSa'
            clear hSa'
            refine wpAnyH_take (i := 13) (oi := { dst := some 79, op := _, type := _, pos := _, after := _, guard := _ }) (v := ?va13_27) rfl (by kernel_rfl) (by kernel_rfl) (by kernel_rfl) (fun _ _ _ h => h) (Or.inl ⟨by kernel_rfl, ?ha13_27⟩) hSa ?ra13_27
            case ha13_27 => first | (intro w hSw; obtain ⟨s2, s5⟩ := hSw; go_simp; done) | (intro w hSw; obtain ⟨s2, s5⟩ := hSw; go_simp; with_reducible rfl)
            try simp only [Act.put, List.setIfInBounds_toArray, List.set_cons_zero, List.set_cons_succ]
            refine wpAnyH_ready (rs := [14]) (by kernel_rfl) (by simp) ?_
            refine AllReadyH.cons rfl (fun K hK => ?_) AllReadyH.nil
            go_simp
            have hSa' : KeepE g o n qk kl ck (W3.drew.alloc (Obj.cells #[.slice qk kl ck, .bool rw', .string (⟨#[60, 47]⟩ ++ n ++ ⟨#[62]⟩)] 93)) := by
              have hA := (Below.refl W3.drew.heap.size W3.drew).alloc (Nat.le_refl _) (Obj.cells #[.slice qk kl ck, .bool rw', .string (⟨#[60, 47]⟩ ++ n ++ ⟨#[62]⟩)] 93)
              exact ⟨cell_later hA (unhide HK).1, cell_later hA (unhide HK).2⟩
            refine hK _ _ hSa' (fun _ => ?_)
            clear hK K hSa
            have hSa := hSa'
            clear hSa'
            refine wpAnyH_ready (rs := [15]) (by kernel_rfl) (by simp) ?_
            refine AllReadyH.cons rfl (fun K hK => ?_) AllReadyH.nil
            obtain ⟨v6, w6, hr, hown, hgr, hnil⟩ := unhide AP
            refine step_append_run (o := { dst := some 81, op := _, type := _, pos := _, after := _, guard := _ }) rfl (.tmp 66) (.tmp 80) 94 94 rfl (.slice (some ⟨b, 0, none⟩) (sl + 1) capb) (.slice (some ⟨W3.drew.heap.size, 0, none⟩) 1 1) (by simp [Act.eval, Act.put]) (by simp [Act.eval, Act.put]) hr ?_
            obtain ⟨a6, c6, hv6⟩ := slice_n hown
            subst hv6
            simp only [Act.put, List.setIfInBounds_toArray, List.set_cons_zero, List.set_cons_succ]
            have hbL := (unhide HBD).alloc (unhide HBD).size (Obj.cells #[.slice qk kl ck, .bool rw', .string (⟨#[60, 47]⟩ ++ n ++ ⟨#[62]⟩)] 93)
            have hlb : ∀ j, some j = (Value.slice (some ⟨b, 0, none⟩) (sl + 1) capb).ownBlock → w.heap.size ≤ j := fun j hj => ((unhide HRD).1.lt j hj.symm).1
            have hb6 := hbL.grown hgr hbL.size (fun j hj => by have h1 := hlb _ hj.symm; have h2 := (unhide HX).2.2.2.2.2.2.2.1; omega)
            have hI6 : Inv (l ++ ah) w6 := unhide HST _ _ _ (unhide HID) (((Lib.OthersKept.refl _ _ _).alloc _).grown hgr (fun g hg => by
              cases hg
              obtain ⟨c, hc⟩ := row_tyL ((unhide HRD).1.alloc (Obj.cells #[.slice qk kl ck, .bool rw', .string (⟨#[60, 47]⟩ ++ n ++ ⟨#[62]⟩)] 93))
              exact ⟨c, _, hc⟩))
            have hs6 : w.heap.size ≤ w6.heap.size := by have h1 := hgr.size; have h2 := (unhide HRD).2; simp at h1 h2; omega
            have HZ6 := hide (And.intro hown (And.intro hI6 (And.intro hb6 hs6)))
            have hSa' : KeepE g o n qk kl ck w6 := by
              have hl6 := (unhide HKD).below hb6
              obtain ⟨⟨_, _, y2, _, _, ⟨qk2, ck2, y5, _⟩⟩, _⟩ := hl6
              refine ⟨y2, ?_⟩
              have hA := (Below.refl W3.drew.heap.size W3.drew).alloc (Nat.le_refl _) (Obj.cells #[.slice qk kl ck, .bool rw', .string (⟨#[60, 47]⟩ ++ n ++ ⟨#[62]⟩)] 93)
              have hg6 : w6.heap[g]? = (W3.drew.alloc (Obj.cells #[.slice qk kl ck, .bool rw', .string (⟨#[60, 47]⟩ ++ n ++ ⟨#[62]⟩)] 93)).heap[g]? := (hb6.block g (unhide HKD3).2).trans (hbL.block g (unhide HKD3).2).symm
              exact (World.cell?_of_block (a := ⟨g, o + 5, none⟩) hg6).trans (cell_later hA (unhide HK).2)
            clear hr hown hgr hnil hbL hlb hb6 hI6 hs6 AP
            refine hK _ _ hSa' (fun _ => ?_)
            clear hK K hSa
            have hSa := hSa'
            clear hSa'
            refine wpAnyH_take (i := 16) (oi := { dst := some 4, op := _, type := _, pos := _, after := _, guard := _ }) (v := ?va16_28) rfl (by kernel_rfl) (by kernel_rfl) (by kernel_rfl) (fun _ _ _ h => h) (Or.inl ⟨by kernel_rfl, ?ha16_28⟩) hSa ?ra16_28
            case ha16_28 => first | (intro w hSw; obtain ⟨s2, s5⟩ := hSw; go_simp; done) | (intro w hSw; obtain ⟨s2, s5⟩ := hSw; go_simp; with_reducible rfl)
            try simp only [Act.put, List.setIfInBounds_toArray, List.set_cons_zero, List.set_cons_succ]
            refine wpAnyH_done (by kernel_rfl) ?_ _
            clear hSa HK z1 z2 j1 j2 hkl hln hcbi hcei hrl e1 hb0 hcap hc
            try simp only [Act.put, List.setIfInBounds_toArray, List.set_cons_zero, List.set_cons_succ]
            go_wp2
            obtain ⟨hrow6, hI6, hb6, hs6⟩ := unhide HZ6
            obtain ⟨_, _, hsz, hc1, hc2, hgk, htd, hB1, _⟩ := unhide HX
            obtain ⟨hrlq, hslq, hklq⟩ := unhide HQ
            simp only [cntL, Forest.count, List.length_cons] at hc1 hc2 hgk
            go_roundg (2 * (kids.count + (rest.count + cntL st)) + (st.length + 1 + 1))
            case measure => omega
            case rel =>
              refine ⟨⟨kids, qk, ck, rw', ⟨#[60, 47]⟩ ++ n ++ ⟨#[62]⟩⟩ :: ⟨rest, qr, ce - 1, raw, en⟩ :: st, l ++ ah, by show kids.count + (rest.count + cntL st) ≤ _; omega, by show st.length + 1 + 1 + (kids.count + (rest.count + cntL st)) ≤ _; omega, rfl, fun e he => ?_, ?_, ?_, hI6, hb6, hB1, hs6⟩
              · rcases List.mem_cons.1 he with rfl | he
                · refine ⟨?_, by show kids.len ≤ ck; rw [hklq]; exact (unhide HFK).2, (unhide HSM).2.1, by show (⟨#[60, 47]⟩ ++ n ++ ⟨#[62]⟩ : ByteArray).size ≤ 10000; have := (unhide HSM).1.2.1; rw [ByteArray.size_append, ByteArray.size_append]; show 2 + _ + 1 ≤ _; omega⟩
                  exact unhide HFW
                rcases List.mem_cons.1 he with rfl | he
                · exact ⟨unhide HQR, by show rest.len ≤ ce - 1; have := unhide HCE; omega, (unhide HSM).2.2, unhide HEN⟩
                · exact unhide HOK e he
              · rw [rowL, rowL, List.append_assoc, List.length_cons, List.length_cons, hslq]
                show w6.ownsRow _ _ _ _ _ (rowL st ++ ([.slice qr rest.len (ce - 1), .bool raw, .string en] ++ [.slice qk kids.len ck, .bool rw', .string (⟨#[60, 47]⟩ ++ n ++ ⟨#[62]⟩)]))
                rw [hrlq, hklq, ← List.append_assoc]; exact hrow6
              · rw [← htd]
                show l ++ ah ++ (txF kids rw' ++ ((⟨#[60, 47]⟩ ++ n ++ ⟨#[62]⟩ : ByteArray).data.toList ++ (txF rest raw ++ (en.data.toList ++ tdL st)))) = l ++ (txF (.cons 1 sp n ats tx kids rest) raw ++ (en.data.toList ++ tdL st))
                rw [unhide HTX, if_pos ⟨by trivial, unhide HVD⟩, end_bs, bs_toList, unhide HRWQ]
                simp only [List.append_assoc]
        · have e2 : (k == 1) = false := beq_eq_false_iff_ne.2 hk1
          have HNP := hide (unhide NOPUSH (fun h => hk1 h.1))
          clear NOPUSH hk1 CV
          go_wp2
          go_roundg (2 * (rest.count + cntL st) + (st.length + 1))
          case measure => exact (unhide HNP).2
          case rel => exact (unhide HNP).1
end Go.Proofs.YtpfnjgkfombmpaaDoor
