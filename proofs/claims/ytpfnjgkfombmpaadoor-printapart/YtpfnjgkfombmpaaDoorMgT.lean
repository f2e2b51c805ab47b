/-
  Several texts in one: what the functions of the program and of the document's answer do.
-/
import Derived.Test.YtpfnjgkfombmpaaDoorJWr
import Derived.Test.YtpfnjgkfombmpaaDoorSh

/-
  What 'print.Text' and 'print.Size' do.
-/
namespace Go.Proofs.YtpfnjgkfombmpaaDoor
open Go.RowKit
set_option linter.unusedVariables false
set_option linter.unusedSimpArgs false

theorem ah_len {k : Int} {n tx : ByteArray} {ats : List (ByteArray × ByteArray)} {raw : Bool} (hf : Fits ats) (hn : n.size ≤ 5000) (ht : tx.size ≤ 5000) : (ahL k n.data.toList ats tx.data.toList raw).length ≤ 90000000 := by
  have h1 := att_len hf ats.length (Nat.le_refl _)
  have h2 := hf.1
  have h3 := data_len n
  have h4 := data_len tx
  have h5 := esc_len false tx.data.toList false
  have h6 : (escL false tx.data.toList).length ≤ 6 * tx.data.toList.length := h5
  unfold ahL
  split
  · unfold openL; simp only [List.length_append, List.length_cons, List.length_nil]; omega
  split
  · unfold noteL; simp only [List.length_append, List.length_cons, List.length_nil]; omega
  split
  · split <;> omega
  · simp
theorem tx_len : ∀ (f : Forest) (raw : Bool), SmF f → (txF f raw).length ≤ 100000000 * f.count
  | .nil, raw, _ => by simp [txF]
  | .cons k sp n ats tx kids rest, raw, h => by
    have h1 := tx_len kids (rwB k sp n) h.2.1
    have h2 := tx_len rest raw h.2.2
    have h3 := ah_len (k := k) (raw := raw) h.1.2.2.1 h.1.2.1 h.1.1
    have h4 := data_len n
    have h5 := h.1.2.1
    rw [txF]
    simp only [Forest.count, List.length_append]
    split
    · rw [List.length_append]
      unfold endL
      simp only [List.length_append, List.length_cons, List.length_nil]
      omega
    · rw [List.length_nil]; omega
theorem bldF_keptL {B b : Nat} {l : List UInt8} {w w1 : World} (h : BldF B b l w) (hk : Lib.OthersKept 93 none w w1) : BldF B b l w1 := by
  have one : ∀ p, Lib.BuilderAtF 62 5 B b p (Lib.byteCells l) w → Lib.BuilderAtF 62 5 B b p (Lib.byteCells l) w1 := by
    intro p h
    obtain ⟨hB, v, hbk, hown, hne⟩ := h
    refine ⟨hB, v, hk _ _ hbk (by simp) (fun c fz e => by injection e with _ e; revert e; decide), ?_, hne⟩
    obtain ⟨hl, h⟩ := hown
    refine ⟨hl, ?_⟩
    rcases h with h | ⟨g, cap, cur, fz, h1, h2, h3, h4⟩
    · exact .inl h
    · exact .inr ⟨g, cap, cur, fz, h1, h2, hk _ _ h3 (by simp) (fun c fz e => by injection e with _ e; revert e; decide), h4⟩
  rcases h with h | h
  · exact .inl (one _ h)
  · exact .inr (one _ h)
theorem keepL_of {B b : Nat} {l : List UInt8} {w w' : World} (h : BldF B b l w) (hb : Below B w w') (ho : Oth b w w') : KeepL w w' := by
  refine ⟨hb.size, fun k c hk => ho k _ hk ?_ ?_⟩
  · intro e
    obtain ⟨c', hc'⟩ := bldF_blk' h
    injection e with e
    rw [e, hc'] at hk
    injection hk with hk
    injection hk with _ hk
    revert hk; decide
  · intro c' fz e
    injection e with _ e
    revert e; decide
set_option maxHeartbeats 1000000 in
theorem text1_any (l : List UInt8) (B G : Nat) (s : ByteArray) (w : World) (hG : BldF B G l w) (hlen : l.length + s.size ≤ 140737488355328) (hBw : B ≤ w.heap.size) :
    Calls Tryd.prog 41 #[.string s, .pointer (some ⟨G, 0, none⟩)] w fun e w' => e = .returned (.tuple #[]) ∧ BldF B G (l ++ s.data.toList) w' ∧ Below B w w' ∧ Oth G w w' := by
  have C := hide (writeStringK B G l s w hG hlen hBw)
  generalize l ++ s.data.toList = L at *
  clear hG hlen
  go_enter Tryd.func41, Tryd.ntmps41
  go_wp2_with fail
  refine (unhide C).mono ?_
  rintro e w1 ⟨rfl, h1, h2, h3⟩
  have HX := hide (And.intro h1 (And.intro h2 h3))
  clear h1 h2 h3 C
  go_wp2
  refine bodyPost_end (v := .tuple #[]) (results_none Tryd.results41 _ _ _) rfl ?_
  exact ⟨rfl, unhide HX⟩
set_option maxHeartbeats 1000000 in
theorem size1_any (c G : Nat) (s : ByteArray) (w : World) (hG : Blk w G #[.int .i64 (c : Int)] 3) (hlen : c + s.size ≤ 140737488355328) :
    Calls Tryd.prog 44 #[.string s, .pointer (some ⟨G, 0, none⟩)] w fun e w' => e = .returned (.tuple #[]) ∧ w' = w.setCell ⟨G, 0, none⟩ (.int .i64 ((c + s.size : Nat) : Int)) := by
  have c0 : w.cell? ⟨G, 0, none⟩ = some (.int .i64 (c : Int)) := hG.cell 0
  have f0 : w.frozen? ⟨G, 0, none⟩ = false := hG.frozen 0
  have hi : (c : Int) + (s.size : Int) ≤ 140737488355328 := by omega
  rw [show ((c + s.size : Nat) : Int) = (c : Int) + (s.size : Int) by omega]
  clear hG hlen
  go_enter Tryd.func44, Tryd.ntmps44
  go_wp2
  refine bodyPost_end (v := .tuple #[]) (results_none Tryd.results44 _ _ _) rfl ?_
  exact ⟨rfl, rfl⟩
set_option maxHeartbeats 1000000 in
theorem ptext_any (f : Forest) (q : Option Addr) (cap : Nat) (w : World) (ht : Tabs w) (hf : Fo q f w) (hs : SmF f) (hcap : f.len ≤ cap) (hc : f.count ≤ 1000000) :
    Calls Tryd.prog 19 #[.slice q f.len cap] w fun e w' => e = .returned (.string (bs (txF f false))) ∧ Below w.heap.size w w' := by
  have hwl := tx_len f false hs
  have CW := hide (write_text (fun l W => BldF w.heap.size w.heap.size l W) w.heap.size w (txF f false) ht
    (fun l V V' h hk => bldF_keptL h hk) (fun l V V' h hb => bldF_below h hb)
    (fun l s V hI hb hl => (text1_any l w.heap.size w.heap.size s V hI (by omega) hb.size).mono fun e V' ⟨h1, h2, h3, h4⟩ => ⟨h1, h2, hb.trans h3, keepL_of hI h3 h4⟩)
    f q cap (w.alloc (Obj.cells #[.pointer none, .slice none 0 0] 62)) hf hs hcap hc rfl (bldF_new w) ((Below.refl _ _).alloc (Nat.le_refl _) _))
  generalize txF f false = L at *
  clear hf hs hwl ht
  go_enter Tryd.func19, Tryd.ntmps19
  go_wp2_with fail
  refine (unhide CW).mono ?_
  rintro e w1 ⟨rfl, hk, hb⟩
  have CS := hide (stringK w.heap.size w.heap.size L w1 hk hb.size)
  have HB := hide hb
  clear hk CW hb
  go_wp2_with fail
  refine (unhide CS).mono ?_
  rintro e w2 ⟨rfl, hb2⟩
  have HB2 := hide ((unhide HB).trans hb2)
  clear hb2 HB
  go_wp2
  go_ret
  exact ⟨rfl, unhide HB2⟩
def SzAt (G : Nat) (l : List UInt8) (w : World) : Prop := Blk w G #[.int .i64 (l.length : Int)] 3
set_option maxHeartbeats 1000000 in
theorem psize_any (f : Forest) (q : Option Addr) (cap : Nat) (w : World) (ht : Tabs w) (hf : Fo q f w) (hs : SmF f) (hcap : f.len ≤ cap) (hc : f.count ≤ 1000000) :
    Calls Tryd.prog 20 #[.slice q f.len cap] w fun e w' => e = .returned (.int .i64 ((txF f false).length : Int)) ∧ Below w.heap.size w w' := by
  have hwl := tx_len f false hs
  have CW := hide (write_size (SzAt w.heap.size) w.heap.size w (txF f false) ht
    (fun l V V' h hk => hk _ _ h (by simp) (fun c fz e => by injection e with _ e; revert e; decide)) (fun l V V' h hb => Blk.later h hb)
    (fun l s V hI hb hl => (size1_any l.length w.heap.size s V hI (by omega)).mono fun e V' ⟨h1, h2⟩ => by
      subst h2
      refine ⟨h1, ?_, hb.setCell (p := ⟨w.heap.size, 0, none⟩) (Nat.le_refl _) _, by simp, fun k c hk => ?_⟩
      · show Blk _ _ #[.int .i64 ((l ++ s.data.toList).length : Int)] _
        rw [List.length_append, data_len]
        exact Blk.set (vs := #[.int .i64 (l.length : Int)]) hI 0 (by simp) _
      · refine (Below.heap_setCell V ⟨w.heap.size, 0, none⟩ _ k ?_).trans hk
        intro e
        have e' : k = w.heap.size := e
        rw [e', show V.heap[w.heap.size]? = _ from hI] at hk
        injection hk with hk
        injection hk with _ hk
        revert hk; decide)
    f q cap (w.alloc (Obj.cells #[.int .i64 0] 3)) hf hs hcap hc rfl (Blk.new w _ _) ((Below.refl _ _).alloc (Nat.le_refl _) _))
  generalize txF f false = L at *
  clear hf hs hwl ht
  go_enter Tryd.func20, Tryd.ntmps20
  go_wp2_with fail
  refine (unhide CW).mono ?_
  rintro e w1 ⟨rfl, hk, hb⟩
  have c0 : w1.cell? ⟨w.heap.size, 0, none⟩ = some (.int .i64 (L.length : Int)) := Blk.cell hk 0
  have HB := hide hb
  clear hk CW hb
  go_wp2
  go_ret
  exact ⟨rfl, unhide HB⟩
end Go.Proofs.YtpfnjgkfombmpaaDoor

/-
  What 'print.line' does.
-/
namespace Go.Proofs.YtpfnjgkfombmpaaDoor
open Go.RowKit
set_option linter.unusedVariables false
set_option linter.unusedSimpArgs false

def flB (b : UInt8) : UInt8 := if b = 10 then 32 else b
def flatL (l : List UInt8) : List UInt8 := l.map flB
theorem flat_replace : ∀ s : List UInt8, Lib.replaceK [10] [32] (s.count 10) s = flatL s
  | [] => rfl
  | b :: l => by
    have ih := flat_replace l
    by_cases hb : b = 10
    · subst hb
      rw [List.count_cons_self, Lib.replaceK_hit [10] [32] _ _ 0 (by simp [Lib.index])]
      show [32] ++ Lib.replaceK [10] [32] (l.count 10) l = _
      rw [ih]; rfl
    · have hc : (b :: l).count 10 = l.count 10 := by rw [List.count_cons]; simp [hb]
      have hf : flatL (b :: l) = b :: flatL l := by show flB b :: _ = _; unfold flB; rw [if_neg hb]; rfl
      rw [hc, hf, ← ih]
      cases hn : l.count 10 with
      | zero => rfl
      | succ c =>
        obtain ⟨i, hi⟩ := Lib.index_of_count (s := l) (old := [10]) (by rw [Lib.count_one, hn]; omega)
        have hi' : Lib.index (b :: l) [10] = ((i + 1 : Nat) : Int) := by
          rw [Lib.index, hi]
          have : ([10] : List UInt8).isPrefixOf (b :: l) = false := by simp [List.isPrefixOf]; exact fun e => hb e.symm
          rw [this]
          simp
        rw [Lib.replaceK_hit [10] [32] c _ (i + 1) hi', Lib.replaceK_hit [10] [32] c l i hi]
        rfl
theorem flat_all (s : List UInt8) : Lib.replaceAll s [10] [32] = flatL s := by
  unfold Lib.replaceAll Lib.replace Lib.replaceNum
  rw [if_neg (by decide), if_pos (Or.inl (by decide)), Lib.count_one]
  exact flat_replace s
def MxJ (w : World) : Prop := ∃ m : Int, w.cell? ⟨2, 0, none⟩ = some (.int .i64 m)
theorem MxJ.below {w w' : World} (h : MxJ w) (hb : Below w.heap.size w w') : MxJ w' := by
  obtain ⟨m, hm⟩ := h
  exact ⟨m, cell_later hb hm⟩
def lnL (k : Int) (n : List UInt8) (ats : List (ByteArray × ByteArray)) (tx : List UInt8) : List UInt8 := if k = 1 then openL n ats else if k = 2 ∨ k = 3 then flatL tx else []
theorem repl_any (tx : ByteArray) (w : World) (hm : MxJ w) (ht : tx.size ≤ 10000) :
    Calls Tryd.prog 77 #[.string tx, .string ⟨#[10]⟩, .string ⟨#[32]⟩] w fun e w' => e = .returned (.string (bs (flatL tx.data.toList))) ∧ Below w.heap.size w w' := by
  obtain ⟨m, hm⟩ := hm
  have := Tryd.strings_ReplaceAll tx ⟨#[10]⟩ ⟨#[32]⟩ m w (by omega) hm (by decide) (by
    have h1 : Lib.countB tx ⟨#[10]⟩ ≤ tx.size := by
      unfold Lib.countB
      show Lib.count tx.data.toList [10] ≤ _
      rw [Lib.count_one, ← data_len tx]
      exact List.count_le_length
    have h2 : (⟨#[32]⟩ : ByteArray).size = 1 := rfl
    rw [h2]; omega)
  rw [show (⟨(Lib.replaceAll tx.data.toList (⟨#[10]⟩ : ByteArray).data.toList (⟨#[32]⟩ : ByteArray).data.toList).toArray⟩ : ByteArray) = bs (flatL tx.data.toList) by rw [← flat_all]; rfl] at this
  exact this
set_option maxHeartbeats 1000000 in
theorem line_any (g o : Nat) (k sp : Int) (n : ByteArray) (ats : List (ByteArray × ByteArray)) (tx : ByteArray) (kids rest : Forest) (w : World) (ht : Tabs w) (hm : MxJ w) (hl : Lies (.cons k sp n ats tx kids rest) g o w) (hf : Fits ats) (hn : n.size ≤ 10000) (htx : tx.size ≤ 10000) :
    Calls Tryd.prog 49 #[.pointer (some ⟨g, o, none⟩)] w fun e w' => e = .returned (.string (bs (lnL k n.data.toList ats tx.data.toList))) ∧ Below w.heap.size w w' := by
  obtain ⟨⟨c0, c1, c2, ⟨qa, ca, c3, hsl⟩, c4, ⟨qk, ck, c5, _, _⟩⟩, _⟩ := hl
  unfold lnL
  by_cases h1 : k = 1
  · subst h1
    rw [if_pos rfl]
    have C := hide (jopen_yes sp n ats tx qa qk ca kids.len ck w ht hsl hf hn)
    generalize bs (openL n.data.toList ats) = y at *
    clear ht hsl hf hm
    go_enter Tryd.func49, Tryd.ntmps49
    go_wp2_with fail
    refine (unhide C).mono ?_
    rintro e w1 ⟨rfl, hb⟩
    have HB := hide hb
    clear hb C
    go_wp2
    go_ret
    exact ⟨rfl, unhide HB⟩
  rw [if_neg h1]
  have e1 : (k == 1) = false := beq_eq_false_iff_ne.2 h1
  by_cases h2 : k = 2 ∨ k = 3
  · rw [if_pos h2]
    have C := hide (repl_any tx w hm htx)
    generalize bs (flatL tx.data.toList) = y at *
    clear ht hsl hf hm c3 c5 h1
    rcases h2 with h2 | h2
    · subst h2
      go_enter Tryd.func49, Tryd.ntmps49
      go_wp2_with fail
      refine (unhide C).mono ?_
      rintro e w1 ⟨rfl, hb⟩
      have HB := hide hb
      clear hb C
      go_wp2
      go_ret
      exact ⟨rfl, unhide HB⟩
    · subst h2
      go_enter Tryd.func49, Tryd.ntmps49
      go_wp2_with fail
      refine (unhide C).mono ?_
      rintro e w1 ⟨rfl, hb⟩
      have HB := hide hb
      clear hb C
      go_wp2
      go_ret
      exact ⟨rfl, unhide HB⟩
  rw [if_neg h2]
  have e2 : (k == 2) = false := beq_eq_false_iff_ne.2 (fun h => h2 (Or.inl h))
  have e3 : (k == 3) = false := beq_eq_false_iff_ne.2 (fun h => h2 (Or.inr h))
  clear ht hsl hf hm c3 c5 h1 h2
  go_enter Tryd.func49, Tryd.ntmps49
  go_wp2
  go_ret
  exact ⟨rfl, Below.refl _ _⟩
end Go.Proofs.YtpfnjgkfombmpaaDoor

/-
  What 'print.Lines' does (made by mk_jls.py).
-/
namespace Go.Proofs.YtpfnjgkfombmpaaDoor
open Go.RowKit
set_option linter.unusedVariables false
set_option linter.unusedSimpArgs false

def spL (d : Nat) : List UInt8 := Lib.repeatL [32] d
def lnF : Forest → Nat → List ByteArray
  | .nil, _ => []
  | .cons k sp n ats tx kids rest, d => bs (spL d ++ lnL k n.data.toList ats tx.data.toList) :: (lnF kids (d + 1) ++ lnF rest d)
theorem lnF_len : ∀ (f : Forest) (d : Nat), (lnF f d).length = f.count
  | .nil, d => rfl
  | .cons k sp n ats tx kids rest, d => by
    rw [lnF, List.length_cons, List.length_append, lnF_len kids, lnF_len rest]
    simp only [Forest.count]; omega
theorem spL_len (d : Nat) : (spL d).length = d := by unfold spL; rw [Lib.repeatL_length]; simp
theorem rep_any (d : Nat) (w : World) (hd : d ≤ 1000000) : Calls Tryd.prog 48 #[.string ⟨#[32]⟩, .int .i64 d] w fun e w' => e = .returned (.string (bs (spL d))) ∧ Below w.heap.size w w' :=
  Tryd.strings_Repeat ⟨#[32]⟩ d w (by omega) (by show 1 * d ≤ _; omega)
theorem ln_len {k : Int} {n tx : ByteArray} {ats : List (ByteArray × ByteArray)} (hf : Fits ats) (hn : n.size ≤ 5000) (ht : tx.size ≤ 5000) : (lnL k n.data.toList ats tx.data.toList).length ≤ 90000000 := by
  have h1 := att_len hf ats.length (Nat.le_refl _)
  have h2 := hf.1
  have h3 := data_len n
  have h4 := data_len tx
  unfold lnL
  split
  · unfold openL; simp only [List.length_append, List.length_cons, List.length_nil]; omega
  split
  · unfold flatL; rw [List.length_map]; omega
  · simp
theorem ownsRow_below' {w w' : World} {base : Nat} {e : TypeId} {size : Nat} {v : Value} {n : Nat} {xs : List Value} (h : w.ownsRow base e size v n xs) (hb : Below w.heap.size w w') : w'.ownsRow base e size v n xs := by
  obtain ⟨hl, h⟩ := h
  refine ⟨hl, ?_⟩
  rcases h with h | ⟨g, cap, cur, h1, h2, h3, h4, h5, h6, h7⟩
  · exact .inl h
  · exact .inr ⟨g, cap, cur, h1, h2, (hb.block g (Blk.lt (w := w) h3)).trans h3, h4, h5, h6, h7⟩
theorem sm_drop' : ∀ (j : Nat) (f : Forest), SmF f → SmF (f.drop j)
  | 0, f, h => by rw [Forest.drop_zero]; exact h
  | j + 1, .nil, h => by rw [Forest.drop_nil]; trivial
  | j + 1, .cons _ _ _ _ _ _ r, h => sm_drop' j r h.2.2
/-- Lines that are gathered: the variable, the row it names, and the function that gathers. -/
structure LnAt (base P Q : Nat) (xs : List ByteArray) (v : Value) (w : World) : Prop where
  blk : Blk w P #[v] 36
  row : w.ownsRow base 9 1 v xs.length (xs.map Value.string)
  fn : Blk w Q #[(.func (.func 47) #[] #[.pointer (some ⟨P, 0, none⟩), .pointer (some ⟨Q, 0, none⟩)])] 71
theorem LnAt.later {base P Q : Nat} {xs : List ByteArray} {v : Value} {w w' : World} (h : LnAt base P Q xs v w) (hb : Below w.heap.size w w') : LnAt base P Q xs v w' :=
  ⟨h.blk.later hb, ownsRow_below' h.row hb, h.fn.later hb⟩
theorem row_apart {base P Q : Nat} {xs : List ByteArray} {v : Value} {w : World} (h : LnAt base P Q xs v w) {b : Nat} (hb : v.ownBlock = some b) : b ≠ P ∧ b ≠ Q ∧ base ≤ b := by
  rcases h.row.2 with ⟨h1, _⟩ | ⟨g, cap, cur, h1, h2, h3, _⟩
  · rw [h1] at hb; cases hb
  · rw [h1] at hb
    have hg : g = b := by simpa [Value.ownBlock] using hb
    subst hg
    refine ⟨fun e => ?_, fun e => ?_, h2⟩
    · subst e
      have := h.blk
      unfold Blk at this
      rw [this] at h3
      injection h3 with h3
      injection h3 with _ h3
      revert h3; decide
    · subst e
      have := h.fn
      unfold Blk at this
      rw [this] at h3
      injection h3 with h3
      injection h3 with _ h3
      revert h3; decide
theorem lnat_store {base P Q : Nat} {ys : List ByteArray} {L : ByteArray} {v : Value} {a : Option Addr} {c : Nat} {w : World} (hP : Blk w P #[v] 36) (hrow : w.ownsRow base 9 1 (.slice a (ys.length + 1) c) (ys.length + 1) (ys.map Value.string ++ [.string L])) (hQ : Blk w Q #[(.func (.func 47) #[] #[.pointer (some ⟨P, 0, none⟩), .pointer (some ⟨Q, 0, none⟩)])] 71) (hPQ : P ≠ Q) :
    LnAt base P Q (ys ++ [L]) (.slice a (ys.length + 1) c) (w.setCell ⟨P, 0, none⟩ (.slice a (ys.length + 1) c)) := by
  refine ⟨hP.set 0 (by simp) _, ?_, hQ.away hPQ.symm _⟩
  rw [List.length_append, List.map_append]
  show (w.setCell ⟨P, 0, none⟩ _).ownsRow base _ 1 _ (ys.length + 1) (ys.map Value.string ++ [.string L])
  obtain ⟨hl, h⟩ := hrow
  refine ⟨hl, ?_⟩
  rcases h with h | ⟨g, cap, cur, h1, h2, h3, h4, h5, h6, h7⟩
  · exact .inl h
  · refine .inr ⟨g, cap, cur, h1, h2, (Below.heap_setCell w ⟨P, 0, none⟩ _ g ?_).trans h3, h4, h5, h6, h7⟩
    show g ≠ P
    intro e
    subst e
    unfold Blk at hP
    rw [hP] at h3
    injection h3 with h3
    injection h3 with _ h3
    revert h3; decide
theorem infoStr0 : (Tryd.prog.info? 9).map (fun i => (i.zero, i.size, i.bytes)) = some (some (.string ⟨#[]⟩), 1, 16) := by kernel_rfl
theorem str_one (xs : List ByteArray) : ∀ u ∈ xs.map Value.string, u.oneCell' = true := fun u hu => by
  obtain ⟨x, _, rfl⟩ := List.mem_map.1 hu
  rfl
set_option maxHeartbeats 1000000 in
theorem gather_none (base P Q : Nat) (q : Option Addr) (cap : Nat) (d : Int) (w : World) : Calls Tryd.prog 47 #[.slice q 0 cap, .int .i64 d, .pointer (some ⟨P, 0, none⟩), .pointer (some ⟨Q, 0, none⟩)] w fun e w' => e = .returned (.tuple #[]) ∧ w' = w := by
  go_enter Tryd.func47, Tryd.ntmps47
  go_wp2
  refine wp_loop_rounds 1 ?_
  rw [rounds_succ]; go_wp2
  refine bodyPost_end (v := .tuple #[]) (results_none Tryd.results47 _ _ _) rfl ?_
  exact ⟨rfl, rfl⟩
def LnSaid (w0 : World) (P Q : Nat) (xs : List ByteArray) (e : Ending) (w' : World) : Prop := e = .returned (.tuple #[]) ∧ (∃ v, LnAt w0.heap.size P Q xs v w') ∧ Below w0.heap.size w0 w'
def KeepG (Q : Nat) (fn : Value) (g o : Nat) (u : Value) (W : World) : Prop := W.cell? ⟨Q, 0, none⟩ = some fn ∧ W.cell? ⟨g, o, none⟩ = some u
set_option maxHeartbeats 1000000 in
set_option maxRecDepth 100000 in
theorem gather_some (w0 : World) (ht : Tabs w0) (hm : MxJ w0) (P Q : Nat) (hP : w0.heap.size ≤ P) (hQ : w0.heap.size ≤ Q) (hPQ : P ≠ Q) (f : Forest) (g o cap d : Nat) (xs : List ByteArray) (v : Value) (w : World) (hl : Lies f g o w0) (hsm : SmF f) (hd : d + f.count ≤ 1000000) (hxs : xs.length + f.count ≤ 1000000) (hI : LnAt w0.heap.size P Q xs v w) (hb : Below w0.heap.size w0 w)
    (ih : ∀ j k sp n ats tx kids, f.drop j = .cons k sp n ats tx kids (f.drop (j + 1)) → ∀ q cap xs v W, Fo q kids w0 → xs.length + kids.count ≤ 1000000 → LnAt w0.heap.size P Q xs v W → Below w0.heap.size w0 W → Calls Tryd.prog 47 #[.slice q kids.len cap, .int .i64 ((d : Int) + 1), .pointer (some ⟨P, 0, none⟩), .pointer (some ⟨Q, 0, none⟩)] W (LnSaid w0 P Q (xs ++ lnF kids (d + 1)))) :
    Calls Tryd.prog 47 #[.slice (some ⟨g, o, none⟩) f.len cap, .int .i64 d, .pointer (some ⟨P, 0, none⟩), .pointer (some ⟨Q, 0, none⟩)] w (LnSaid w0 P Q (xs ++ lnF f d)) := by
  obtain ⟨i0, hi0, hi1, hi2, hi3⟩ := info_parts infoStr0
  have HL := hide hl
  have HT := hide (And.intro ht hm)
  have IH := hide ih
  have hlc := f.len_count
  have HI := hide (And.intro hI hb)
  have HPQ := hide (And.intro hP (And.intro hQ hPQ))
  have HSM := hide (fun j => sm_drop' j f hsm)
  have hdi : (d : Int) ≤ 1000000 := by omega
  have HD := hide hd
  have HXS := hide hxs
  clear hl ht hm ih hI hb hP hQ hPQ hsm hd hxs
  go_enter Tryd.func47, Tryd.ntmps47
  go_wp2
  go_loopw [9] (fun i wr => ∃ (j : Nat) (ys : List ByteArray) (v : Value), j ≤ f.len ∧ i = .int .i64 j ∧ ys ++ lnF (f.drop j) d = xs ++ lnF f d ∧ LnAt w0.heap.size P Q ys v wr ∧ Below w0.heap.size w0 wr) (fun i _ => f.len - (intOf i).toNat)
  case atStart => exact ⟨0, xs, v, Nat.zero_le _, rfl, by rw [Forest.drop_zero], (unhide HI).1, (unhide HI).2⟩
  case round =>
    clear HI
    obtain ⟨j, ys, v, hj, rfl, hys, hI, hbw⟩ := hrel
    have hyl : ys.length + (f.drop j).count = xs.length + f.count := by
      have := congrArg List.length hys
      rw [List.length_append, List.length_append, lnF_len, lnF_len] at this
      exact this
    by_cases hp : j < f.len
    · have hpi : (j : Int) < (f.len : Int) := by omega
      have hji : (j : Int) ≤ 1000000 := by have := unhide HD; omega
      obtain ⟨k, sp, n, ats, tx, kids, hdr⟩ := f.drop_cons j hp
      have hl0 := (unhide HL).drop j
      have hs0 := unhide HSM j
      rw [hdr] at hl0 hs0 hyl hys
      have hyl' : ys.length + (1 + kids.count + (f.drop (j + 1)).count) = xs.length + f.count := hyl
      have hyN : ys.length ≤ 1000000 := by have := unhide HXS; omega
      have hl1 := hl0
      obtain ⟨⟨_, _, _, _, _, ⟨qk, ck, l5, _, hfk⟩⟩, _⟩ := hl1
      have CL := hide (fun W (hW : Below w0.heap.size w0 W) => line_any g (o + j * 6) k sp n ats tx kids (f.drop (j + 1)) W ((unhide HT).1.below hW) ((unhide HT).2.below hW) (hl0.below hW) hs0.1.2.2.1 (by have := hs0.1.2.1; omega) (by have := hs0.1.1; omega))
      have CR := hide (fun W => rep_any d W (by omega))
      have CG := hide (fun ys v W h1 h2 h3 => unhide IH j k sp n ats tx kids hdr qk ck ys v W hfk h1 h2 h3)
      have hln := ln_len (k := k) hs0.1.2.2.1 hs0.1.2.1 hs0.1.1
      have hsl := spL_len d
      have HLN : Hid (ys ++ (bs (spL d ++ lnL k n.data.toList ats tx.data.toList) :: (lnF kids (d + 1) ++ lnF (f.drop (j + 1)) d)) = xs ++ lnF f d) := hide hys
      have hbs : bs (spL d) ++ bs (lnL k n.data.toList ats tx.data.toList) = bs (spL d ++ lnL k n.data.toList ats tx.data.toList) := bs_bs _ _
      have z1 : ¬ 9223372036854775807 < (bs (spL d)).size + (bs (lnL k n.data.toList ats tx.data.toList)).size := by rw [bs_size, bs_size, hsl]; omega
      have HBS := hide hbs
      have HKC : Hid (ys.length + 1 + kids.count ≤ 1000000) := hide (by have := unhide HXS; omega)
      have HFL : Hid (g < w0.heap.size) := hide (World.block_lt_of_cell? w0 _ l5)
      clear hln hsl hbs hyl hyl' hys hl0 hs0 hdr hfk
      generalize spL d = sp0 at *
      generalize lnL k n.data.toList ats tx.data.toList = ln0 at *
      generalize bs (sp0 ++ ln0) = L0 at *
      generalize bs sp0 = s1 at *
      generalize bs ln0 = s2 at *
      have l5w := cell_later hbw l5
      have HL5 := hide l5
      have hD : Below wr.heap.size wr wr.drew := below_draws wr 1
      have HID := hide (And.intro (hI.later hD) (hbw.trans (hD.mono hbw.size)))
      clear hI hbw l5 hD l5w
      go_wp2_with fail
      have hSa : True := trivial
      refine wp_region_held (S := fun _ => True) (by kernel_rfl) ?_
      change wpAnyH _ _ _ _ _ _ _ _ (World.drew _)
      refine wpAnyH_take (i := 1) (oi := { dst := some 13, op := _, type := _, pos := _, after := _, guard := _ }) (v := ?va1_1) rfl (by kernel_rfl) (by kernel_rfl) (by kernel_rfl) (fun _ _ _ h => h) (Or.inl ⟨by kernel_rfl, ?ha1_1⟩) hSa ?ra1_1
      case ha1_1 => first | (intro w hSw; obtain _ := hSw; go_simp; done) | (intro w hSw; obtain _ := hSw; go_simp; with_reducible rfl)
      try simp only [Act.put, List.setIfInBounds_toArray, List.set_cons_zero, List.set_cons_succ]
      refine wpAnyH_take (i := 3) (oi := { dst := some 15, op := _, type := _, pos := _, after := _, guard := _ }) (v := ?va3_2) rfl (by kernel_rfl) (by kernel_rfl) (by kernel_rfl) (fun _ _ _ h => h) (Or.inl ⟨by kernel_rfl, ?ha3_2⟩) hSa ?ra3_2
      case ha3_2 => first | (intro w hSw; obtain _ := hSw; go_simp; done) | (intro w hSw; obtain _ := hSw; go_simp; with_reducible rfl)
      try simp only [Act.put, List.setIfInBounds_toArray, List.set_cons_zero, List.set_cons_succ]
      refine wpAnyH_take (i := 4) (oi := { dst := some 16, op := _, type := _, pos := _, after := _, guard := _ }) (v := ?va4_3) rfl (by kernel_rfl) (by kernel_rfl) (by kernel_rfl) (fun _ _ _ h => h) (Or.inl ⟨by kernel_rfl, ?ha4_3⟩) hSa ?ra4_3
      case ha4_3 => first | (intro w hSw; obtain _ := hSw; go_simp; done) | (intro w hSw; obtain _ := hSw; go_simp; with_reducible rfl)
      try simp only [Act.put, List.setIfInBounds_toArray, List.set_cons_zero, List.set_cons_succ]
      refine wpAnyH_take (i := 5) (oi := { dst := some 17, op := _, type := _, pos := _, after := _, guard := _ }) (v := ?va5_4) rfl (by kernel_rfl) (by kernel_rfl) (by kernel_rfl) (fun _ _ _ h => h) (Or.inl ⟨by kernel_rfl, ?ha5_4⟩) hSa ?ra5_4
      case ha5_4 => first | (intro w hSw; obtain _ := hSw; go_simp; done) | (intro w hSw; obtain _ := hSw; go_simp; with_reducible rfl)
      try simp only [Act.put, List.setIfInBounds_toArray, List.set_cons_zero, List.set_cons_succ]
      refine wpAnyH_ready (rs := [0, 2]) (by kernel_rfl) (by simp) ?_
      refine AllReadyH.cons rfl (fun K hK => ?_) (AllReadyH.cons rfl (fun K hK => ?_) AllReadyH.nil)
      · have x0 := (unhide HID).1.blk.cell 0
        go_simp
        have hSa' : True := trivial
        clear x0
        refine hK _ _ hSa' (fun _ => ?_)
        clear hK K hSa
        have hSa := hSa'
        clear hSa'
        refine wpAnyH_ready (rs := [2]) (by kernel_rfl) (by simp) ?_
        refine AllReadyH.cons rfl (fun K hK => ?_) AllReadyH.nil
        go_simp
        refine (unhide CR _).mono ?_
        rintro e w1 ⟨rfl, hb1⟩
        have H1 := hide (And.intro ((unhide HID).1.later hb1) ((unhide HID).2.trans (hb1.mono (unhide HID).2.size)))
        have hSa' : True := trivial
        clear hb1 CR
        refine hK _ _ hSa' (fun _ => ?_)
        clear hK K hSa
        have hSa := hSa'
        clear hSa'
        refine wpAnyH_ready (rs := [6]) (by kernel_rfl) (by simp) ?_
        refine AllReadyH.cons rfl (fun K hK => ?_) AllReadyH.nil
        go_simp
        refine (unhide CL _ (unhide H1).2).mono ?_
        rintro e w2 ⟨rfl, hb2⟩
        have H2 := hide (And.intro ((unhide H1).1.later hb2) ((unhide H1).2.trans (hb2.mono (unhide H1).2.size)))
        have hSa' : True := trivial
        clear hb2 CL
        refine hK _ _ hSa' (fun _ => ?_)
        clear hK K hSa
        have hSa := hSa'
        clear hSa'
        refine wpAnyH_take (i := 7) (oi := { dst := some 19, op := _, type := _, pos := _, after := _, guard := _ }) (v := ?va7_5) rfl (by kernel_rfl) (by kernel_rfl) (by kernel_rfl) (fun _ _ _ h => h) (Or.inl ⟨by kernel_rfl, ?ha7_5⟩) hSa ?ra7_5
        case ha7_5 => first | (intro w hSw; obtain _ := hSw; go_simp; done) | (intro w hSw; obtain _ := hSw; go_simp; with_reducible rfl)
        try simp only [Act.put, List.setIfInBounds_toArray, List.set_cons_zero, List.set_cons_succ]
        refine wpAnyH_ready (rs := [8]) (by kernel_rfl) (by simp) ?_
        refine AllReadyH.cons rfl (fun K hK => ?_) AllReadyH.nil
        go_simp
        have hA3 := (Below.refl w2.heap.size w2).alloc (Nat.le_refl _) (Obj.cells #[.string (s1 ++ s2)] 9)
        have H3 := hide (And.intro ((unhide H2).1.later hA3) ((unhide H2).2.trans (hA3.mono (unhide H2).2.size)))
        have hSa' : True := trivial
        clear hA3
        refine hK _ _ hSa' (fun _ => ?_)
        clear hK K hSa
        have hSa := hSa'
        clear hSa'
        refine wpAnyH_ready (rs := [9]) (by kernel_rfl) (by simp) ?_
        refine AllReadyH.cons rfl (fun K hK => ?_) AllReadyH.nil
        obtain ⟨w4, v4, hr, hown, hgr⟩ : ∃ w4 v4, (Builtin.append_ #[36, 36] 36 #[v, .slice (some ⟨w2.heap.size, 0, none⟩) 1 1]).run Tryd.prog (w2.alloc (Obj.cells #[.string (s1 ++ s2)] 9)) = .ok v4 w4 ∧ w4.ownsRow w0.heap.size 9 1 v4 (ys.length + 1) (ys.map Value.string ++ [.string (s1 ++ s2)]) ∧ (w2.alloc (Obj.cells #[.string (s1 ++ s2)] 9)).grownBy w4 v.ownBlock := by
          obtain ⟨v4, w4, h1, h2, h3, _⟩ := run_append_own (P := Tryd.prog) (w2.alloc (Obj.cells #[.string (s1 ++ s2)] 9)) w0.heap.size 36 36 9 i0 (.string ⟨#[]⟩) 1 16 Tryd.underlying36 hi0 hi1 hi2 hi3 rfl (by decide) v ys.length (ys.map Value.string) (unhide H3).1.row ⟨w2.heap.size, 0, none⟩ 1 1 [.string (s1 ++ s2)] rfl (fun j u hj => lit1 hj) (fun u hu => by simp at hu; rw [hu]; rfl) (by unfold maxLen; omega) (by omega) (by have := (unhide H3).2.size; exact this)
          exact ⟨w4, v4, h1, h2, h3⟩
        obtain ⟨a5, n5, c5, hv⟩ : ∃ a5 n5 c5, v = .slice a5 n5 c5 := by obtain ⟨a5, c5, h⟩ := slice_n (unhide H3).1.row; exact ⟨a5, _, c5, h⟩
        refine step_append_run (o := { dst := some 21, op := _, type := _, pos := _, after := _, guard := _ }) rfl (.tmp 12) (.tmp 20) 36 36 rfl v (.slice (some ⟨w2.heap.size, 0, none⟩) 1 1) (by simp [Act.eval, Act.put]) (by simp [Act.eval, Act.put]) hr ?_
        simp only [Act.put, List.setIfInBounds_toArray, List.set_cons_zero, List.set_cons_succ]
        have hne : ∀ b, v.ownBlock = some b → b ≠ P ∧ b ≠ Q ∧ w0.heap.size ≤ b := fun b hb => row_apart (unhide H3).1 hb
        have hb4 := (unhide H3).2.grown hgr (unhide H3).2.size (fun k hk => (hne k hk).2.2)
        have kP : Blk w4 P #[v] 36 := (hgr.block P (unhide H3).1.blk.lt (fun e => (hne P e.symm).1 rfl)).trans (unhide H3).1.blk
        have kQ : Blk w4 Q #[(.func (.func 47) #[] #[.pointer (some ⟨P, 0, none⟩), .pointer (some ⟨Q, 0, none⟩)])] 71 := (hgr.block Q (unhide H3).1.fn.lt (fun e => (hne Q e.symm).2.1 rfl)).trans (unhide H3).1.fn
        have H4 := hide (And.intro hown (And.intro kP (And.intro kQ hb4)))
        obtain ⟨a4, c4, hv4⟩ := slice_n hown
        subst hv4
        have hSa' : True := trivial
        clear hr hown hgr hne hb4 kP kQ
        refine hK _ _ hSa' (fun _ => ?_)
        clear hK K hSa
        have hSa := hSa'
        clear hSa'
        refine wpAnyH_ready (rs := [10]) (by kernel_rfl) (by simp) ?_
        refine AllReadyH.cons rfl (fun K hK => ?_) AllReadyH.nil
        have x0 := (unhide H4).2.1.cell 0
        have f0 := (unhide H4).2.1.frozen 0
        go_simp
        have hSa' : True := trivial
        clear x0 f0
        refine hK _ _ hSa' (fun _ => ?_)
        clear hK K hSa
        have hSa := hSa'
        clear hSa'
        refine wpAnyH_done (by kernel_rfl) ?_ _
        clear hSa
        try simp only [Act.put, List.setIfInBounds_toArray, List.set_cons_zero, List.set_cons_succ]
        have hI5 : LnAt w0.heap.size P Q (ys ++ [L0]) (.slice a4 (ys.length + 1) c4) (w4.setCell ⟨P, 0, none⟩ (.slice a4 (ys.length + 1) c4)) := by
          rw [unhide HBS] at H4
          exact lnat_store (unhide H4).2.1 (unhide H4).1 (unhide H4).2.2.1 (unhide HPQ).2.2
        have hb5 := (unhide H4).2.2.2.setCell (p := ⟨P, 0, none⟩) (unhide HPQ).1 (.slice a4 (ys.length + 1) c4)
        generalize w4.setCell ⟨P, 0, none⟩ (.slice a4 (ys.length + 1) c4) = w5 at *
        have hD5 : Below w5.heap.size w5 w5.drew := below_draws w5 1
        have H5 := hide (And.intro (hI5.later hD5) (hb5.trans (hD5.mono hb5.size)))
        have HS5 : Hid (KeepG Q (.func (.func 47) #[] #[.pointer (some ⟨P, 0, none⟩), .pointer (some ⟨Q, 0, none⟩)]) g (o + j * 6 + 5) (.slice qk kids.len ck) w5.drew) := hide ⟨(unhide H5).1.fn.cell 0, cell_later (unhide H5).2 (unhide HL5)⟩
        clear hI5 hb5 hD5 z1
        have hwd : IntKind.i64.wrap ((d : Int) + 1) = (d : Int) + 1 := by simp [IntKind.wrap, IntKind.bits, IntKind.signed]; omega
        go_wp2_with fail
        have hSa := unhide HS5
        refine wp_region_held (S := KeepG Q (.func (.func 47) #[] #[.pointer (some ⟨P, 0, none⟩), .pointer (some ⟨Q, 0, none⟩)]) g (o + j * 6 + 5) (.slice qk kids.len ck)) (by kernel_rfl) ?_
        change wpAnyH _ _ _ _ _ _ _ _ (World.drew _)
        refine wpAnyH_take (i := 0) (oi := { dst := some 22, op := _, type := _, pos := _, after := _, guard := _ }) (v := ?vb0_6) rfl (by kernel_rfl) (by kernel_rfl) (by kernel_rfl) (fun _ _ _ h => h) (Or.inl ⟨by kernel_rfl, ?hb0_6⟩) hSa ?rb0_6
        case hb0_6 => first | (intro w hSw; obtain ⟨s0, s5⟩ := hSw; go_simp; done) | (intro w hSw; obtain ⟨s0, s5⟩ := hSw; go_simp; with_reducible rfl)
        try simp only [Act.put, List.setIfInBounds_toArray, List.set_cons_zero, List.set_cons_succ]
        refine wpAnyH_take (i := 1) (oi := { dst := some 23, op := _, type := _, pos := _, after := _, guard := _ }) (v := ?vb1_7) rfl (by kernel_rfl) (by kernel_rfl) (by kernel_rfl) (fun _ _ _ h => h) (Or.inl ⟨by kernel_rfl, ?hb1_7⟩) hSa ?rb1_7
        case hb1_7 => first | (intro w hSw; obtain ⟨s0, s5⟩ := hSw; go_simp; done) | (intro w hSw; obtain ⟨s0, s5⟩ := hSw; go_simp; with_reducible rfl)
        try simp only [Act.put, List.setIfInBounds_toArray, List.set_cons_zero, List.set_cons_succ]
        refine wpAnyH_take (i := 2) (oi := { dst := some 24, op := _, type := _, pos := _, after := _, guard := _ }) (v := ?vb2_8) rfl (by kernel_rfl) (by kernel_rfl) (by kernel_rfl) (fun _ _ _ h => h) (Or.inl ⟨by kernel_rfl, ?hb2_8⟩) hSa ?rb2_8
        case hb2_8 => first | (intro w hSw; obtain ⟨s0, s5⟩ := hSw; go_simp; done) | (intro w hSw; obtain ⟨s0, s5⟩ := hSw; go_simp; with_reducible rfl)
        try simp only [Act.put, List.setIfInBounds_toArray, List.set_cons_zero, List.set_cons_succ]
        refine wpAnyH_take (i := 3) (oi := { dst := some 25, op := _, type := _, pos := _, after := _, guard := _ }) (v := ?vb3_9) rfl (by kernel_rfl) (by kernel_rfl) (by kernel_rfl) (fun _ _ _ h => h) (Or.inl ⟨by kernel_rfl, ?hb3_9⟩) hSa ?rb3_9
        case hb3_9 => first | (intro w hSw; obtain ⟨s0, s5⟩ := hSw; go_simp; done) | (intro w hSw; obtain ⟨s0, s5⟩ := hSw; go_simp; with_reducible rfl)
        try simp only [Act.put, List.setIfInBounds_toArray, List.set_cons_zero, List.set_cons_succ]
        refine wpAnyH_take (i := 4) (oi := { dst := some 26, op := _, type := _, pos := _, after := _, guard := _ }) (v := ?vb4_10) rfl (by kernel_rfl) (by kernel_rfl) (by kernel_rfl) (fun _ _ _ h => h) (Or.inl ⟨by kernel_rfl, ?hb4_10⟩) hSa ?rb4_10
        case hb4_10 => first | (intro w hSw; obtain ⟨s0, s5⟩ := hSw; go_simp; done) | (intro w hSw; obtain ⟨s0, s5⟩ := hSw; go_simp; with_reducible rfl)
        try simp only [Act.put, List.setIfInBounds_toArray, List.set_cons_zero, List.set_cons_succ]
        refine wpAnyH_take (i := 5) (oi := { dst := some 27, op := _, type := _, pos := _, after := _, guard := _ }) (v := ?vb5_11) rfl (by kernel_rfl) (by kernel_rfl) (by kernel_rfl) (fun _ _ _ h => h) (Or.inl ⟨by kernel_rfl, ?hb5_11⟩) hSa ?rb5_11
        case hb5_11 => first | (intro w hSw; obtain ⟨s0, s5⟩ := hSw; go_simp; done) | (intro w hSw; obtain ⟨s0, s5⟩ := hSw; go_simp; with_reducible rfl)
        try simp only [Act.put, List.setIfInBounds_toArray, List.set_cons_zero, List.set_cons_succ]
        refine wpAnyH_take (i := 6) (oi := { dst := some 28, op := _, type := _, pos := _, after := _, guard := _ }) (v := ?vb6_12) rfl (by kernel_rfl) (by kernel_rfl) (by kernel_rfl) (fun _ _ _ h => h) (Or.inl ⟨by kernel_rfl, ?hb6_12⟩) hSa ?rb6_12
        case hb6_12 => first | (intro w hSw; obtain ⟨s0, s5⟩ := hSw; go_simp; done) | (intro w hSw; obtain ⟨s0, s5⟩ := hSw; go_simp; with_reducible rfl)
        try simp only [Act.put, List.setIfInBounds_toArray, List.set_cons_zero, List.set_cons_succ]
        refine wpAnyH_take (i := 7) (oi := { dst := some 29, op := _, type := _, pos := _, after := _, guard := _ }) (v := ?vb7_13) rfl (by kernel_rfl) (by kernel_rfl) (by kernel_rfl) (fun _ _ _ h => h) (Or.inl ⟨by kernel_rfl, ?hb7_13⟩) hSa ?rb7_13
        case hb7_13 => first | (intro w hSw; obtain ⟨s0, s5⟩ := hSw; go_simp; done) | (intro w hSw; obtain ⟨s0, s5⟩ := hSw; go_simp; with_reducible rfl)
        try simp only [Act.put, List.setIfInBounds_toArray, List.set_cons_zero, List.set_cons_succ]
        refine wpAnyH_ready (rs := [8]) (by kernel_rfl) (by simp) ?_
        refine AllReadyH.cons rfl (fun K hK => ?_) AllReadyH.nil
        go_simp
        refine (unhide CG (ys ++ [L0]) (.slice a4 (ys.length + 1) c4) w5.drew (by rw [List.length_append]; exact unhide HKC) (unhide H5).1 (unhide H5).2).mono ?_
        rintro e w6 ⟨rfl, ⟨v6, hI6⟩, hb6⟩
        have H6 := hide (And.intro hI6 hb6)
        have hSa' : KeepG Q (.func (.func 47) #[] #[.pointer (some ⟨P, 0, none⟩), .pointer (some ⟨Q, 0, none⟩)]) g (o + j * 6 + 5) (.slice qk kids.len ck) w6 := ⟨hI6.fn.cell 0, cell_later hb6 (unhide HL5)⟩
        clear hI6 hb6 CG
        refine hK _ _ hSa' (fun _ => ?_)
        clear hK K hSa
        have hSa := hSa'
        clear hSa'
        refine wpAnyH_done (by kernel_rfl) ?_ _
        clear hSa hwd
        go_wp2
        go_roundw
        case rel => exact ⟨j + 1, ys ++ [L0] ++ lnF kids (d + 1), v6, by omega, by go_num, by rw [← unhide HLN]; simp [List.append_assoc], (unhide H6).1, (unhide H6).2⟩
        case measure => simp [intOf]; omega
      · go_simp
        refine (unhide CR _).mono ?_
        rintro e w1 ⟨rfl, hb1⟩
        have H1 := hide (And.intro ((unhide HID).1.later hb1) ((unhide HID).2.trans (hb1.mono (unhide HID).2.size)))
        have hSa' : True := trivial
        clear hb1 CR
        refine hK _ _ hSa' (fun _ => ?_)
        clear hK K hSa
        have hSa := hSa'
        clear hSa'
        refine wpAnyH_ready (rs := [0, 6]) (by kernel_rfl) (by simp) ?_
        refine AllReadyH.cons rfl (fun K hK => ?_) (AllReadyH.cons rfl (fun K hK => ?_) AllReadyH.nil)
        · have x0 := (unhide H1).1.blk.cell 0
          go_simp
          have hSa' : True := trivial
          clear x0
          refine hK _ _ hSa' (fun _ => ?_)
          clear hK K hSa
          have hSa := hSa'
          clear hSa'
          refine wpAnyH_ready (rs := [6]) (by kernel_rfl) (by simp) ?_
          refine AllReadyH.cons rfl (fun K hK => ?_) AllReadyH.nil
          go_simp
          refine (unhide CL _ (unhide H1).2).mono ?_
          rintro e w2 ⟨rfl, hb2⟩
          have H2 := hide (And.intro ((unhide H1).1.later hb2) ((unhide H1).2.trans (hb2.mono (unhide H1).2.size)))
          have hSa' : True := trivial
          clear hb2 CL
          refine hK _ _ hSa' (fun _ => ?_)
          clear hK K hSa
          have hSa := hSa'
          clear hSa'
          refine wpAnyH_take (i := 7) (oi := { dst := some 19, op := _, type := _, pos := _, after := _, guard := _ }) (v := ?va7_14) rfl (by kernel_rfl) (by kernel_rfl) (by kernel_rfl) (fun _ _ _ h => h) (Or.inl ⟨by kernel_rfl, ?ha7_14⟩) hSa ?ra7_14
          case ha7_14 => first | (intro w hSw; obtain _ := hSw; go_simp; done) | (intro w hSw; obtain _ := hSw; go_simp; with_reducible rfl)
          try simp only [Act.put, List.setIfInBounds_toArray, List.set_cons_zero, List.set_cons_succ]
          refine wpAnyH_ready (rs := [8]) (by kernel_rfl) (by simp) ?_
          refine AllReadyH.cons rfl (fun K hK => ?_) AllReadyH.nil
          go_simp
          have hA3 := (Below.refl w2.heap.size w2).alloc (Nat.le_refl _) (Obj.cells #[.string (s1 ++ s2)] 9)
          have H3 := hide (And.intro ((unhide H2).1.later hA3) ((unhide H2).2.trans (hA3.mono (unhide H2).2.size)))
          have hSa' : True := trivial
          clear hA3
          refine hK _ _ hSa' (fun _ => ?_)
          clear hK K hSa
          have hSa := hSa'
          clear hSa'
          refine wpAnyH_ready (rs := [9]) (by kernel_rfl) (by simp) ?_
          refine AllReadyH.cons rfl (fun K hK => ?_) AllReadyH.nil
          obtain ⟨w4, v4, hr, hown, hgr⟩ : ∃ w4 v4, (Builtin.append_ #[36, 36] 36 #[v, .slice (some ⟨w2.heap.size, 0, none⟩) 1 1]).run Tryd.prog (w2.alloc (Obj.cells #[.string (s1 ++ s2)] 9)) = .ok v4 w4 ∧ w4.ownsRow w0.heap.size 9 1 v4 (ys.length + 1) (ys.map Value.string ++ [.string (s1 ++ s2)]) ∧ (w2.alloc (Obj.cells #[.string (s1 ++ s2)] 9)).grownBy w4 v.ownBlock := by
            obtain ⟨v4, w4, h1, h2, h3, _⟩ := run_append_own (P := Tryd.prog) (w2.alloc (Obj.cells #[.string (s1 ++ s2)] 9)) w0.heap.size 36 36 9 i0 (.string ⟨#[]⟩) 1 16 Tryd.underlying36 hi0 hi1 hi2 hi3 rfl (by decide) v ys.length (ys.map Value.string) (unhide H3).1.row ⟨w2.heap.size, 0, none⟩ 1 1 [.string (s1 ++ s2)] rfl (fun j u hj => lit1 hj) (fun u hu => by simp at hu; rw [hu]; rfl) (by unfold maxLen; omega) (by omega) (by have := (unhide H3).2.size; exact this)
            exact ⟨w4, v4, h1, h2, h3⟩
          obtain ⟨a5, n5, c5, hv⟩ : ∃ a5 n5 c5, v = .slice a5 n5 c5 := by obtain ⟨a5, c5, h⟩ := slice_n (unhide H3).1.row; exact ⟨a5, _, c5, h⟩
          refine step_append_run (o := { dst := some 21, op := _, type := _, pos := _, after := _, guard := _ }) rfl (.tmp 12) (.tmp 20) 36 36 rfl v (.slice (some ⟨w2.heap.size, 0, none⟩) 1 1) (by simp [Act.eval, Act.put]) (by simp [Act.eval, Act.put]) hr ?_
          simp only [Act.put, List.setIfInBounds_toArray, List.set_cons_zero, List.set_cons_succ]
          have hne : ∀ b, v.ownBlock = some b → b ≠ P ∧ b ≠ Q ∧ w0.heap.size ≤ b := fun b hb => row_apart (unhide H3).1 hb
          have hb4 := (unhide H3).2.grown hgr (unhide H3).2.size (fun k hk => (hne k hk).2.2)
          have kP : Blk w4 P #[v] 36 := (hgr.block P (unhide H3).1.blk.lt (fun e => (hne P e.symm).1 rfl)).trans (unhide H3).1.blk
          have kQ : Blk w4 Q #[(.func (.func 47) #[] #[.pointer (some ⟨P, 0, none⟩), .pointer (some ⟨Q, 0, none⟩)])] 71 := (hgr.block Q (unhide H3).1.fn.lt (fun e => (hne Q e.symm).2.1 rfl)).trans (unhide H3).1.fn
          have H4 := hide (And.intro hown (And.intro kP (And.intro kQ hb4)))
          obtain ⟨a4, c4, hv4⟩ := slice_n hown
          subst hv4
          have hSa' : True := trivial
          clear hr hown hgr hne hb4 kP kQ
          refine hK _ _ hSa' (fun _ => ?_)
          clear hK K hSa
          have hSa := hSa'
          clear hSa'
          refine wpAnyH_ready (rs := [10]) (by kernel_rfl) (by simp) ?_
          refine AllReadyH.cons rfl (fun K hK => ?_) AllReadyH.nil
          have x0 := (unhide H4).2.1.cell 0
          have f0 := (unhide H4).2.1.frozen 0
          go_simp
          have hSa' : True := trivial
          clear x0 f0
          refine hK _ _ hSa' (fun _ => ?_)
          clear hK K hSa
          have hSa := hSa'
          clear hSa'
          refine wpAnyH_done (by kernel_rfl) ?_ _
          clear hSa
          try simp only [Act.put, List.setIfInBounds_toArray, List.set_cons_zero, List.set_cons_succ]
          have hI5 : LnAt w0.heap.size P Q (ys ++ [L0]) (.slice a4 (ys.length + 1) c4) (w4.setCell ⟨P, 0, none⟩ (.slice a4 (ys.length + 1) c4)) := by
            rw [unhide HBS] at H4
            exact lnat_store (unhide H4).2.1 (unhide H4).1 (unhide H4).2.2.1 (unhide HPQ).2.2
          have hb5 := (unhide H4).2.2.2.setCell (p := ⟨P, 0, none⟩) (unhide HPQ).1 (.slice a4 (ys.length + 1) c4)
          generalize w4.setCell ⟨P, 0, none⟩ (.slice a4 (ys.length + 1) c4) = w5 at *
          have hD5 : Below w5.heap.size w5 w5.drew := below_draws w5 1
          have H5 := hide (And.intro (hI5.later hD5) (hb5.trans (hD5.mono hb5.size)))
          have HS5 : Hid (KeepG Q (.func (.func 47) #[] #[.pointer (some ⟨P, 0, none⟩), .pointer (some ⟨Q, 0, none⟩)]) g (o + j * 6 + 5) (.slice qk kids.len ck) w5.drew) := hide ⟨(unhide H5).1.fn.cell 0, cell_later (unhide H5).2 (unhide HL5)⟩
          clear hI5 hb5 hD5 z1
          have hwd : IntKind.i64.wrap ((d : Int) + 1) = (d : Int) + 1 := by simp [IntKind.wrap, IntKind.bits, IntKind.signed]; omega
          go_wp2_with fail
          have hSa := unhide HS5
          refine wp_region_held (S := KeepG Q (.func (.func 47) #[] #[.pointer (some ⟨P, 0, none⟩), .pointer (some ⟨Q, 0, none⟩)]) g (o + j * 6 + 5) (.slice qk kids.len ck)) (by kernel_rfl) ?_
          change wpAnyH _ _ _ _ _ _ _ _ (World.drew _)
          refine wpAnyH_take (i := 0) (oi := { dst := some 22, op := _, type := _, pos := _, after := _, guard := _ }) (v := ?vb0_15) rfl (by kernel_rfl) (by kernel_rfl) (by kernel_rfl) (fun _ _ _ h => h) (Or.inl ⟨by kernel_rfl, ?hb0_15⟩) hSa ?rb0_15
          case hb0_15 => first | (intro w hSw; obtain ⟨s0, s5⟩ := hSw; go_simp; done) | (intro w hSw; obtain ⟨s0, s5⟩ := hSw; go_simp; with_reducible rfl)
          try simp only [Act.put, List.setIfInBounds_toArray, List.set_cons_zero, List.set_cons_succ]
          refine wpAnyH_take (i := 1) (oi := { dst := some 23, op := _, type := _, pos := _, after := _, guard := _ }) (v := ?vb1_16) rfl (by kernel_rfl) (by kernel_rfl) (by kernel_rfl) (fun _ _ _ h => h) (Or.inl ⟨by kernel_rfl, ?hb1_16⟩) hSa ?rb1_16
          case hb1_16 => first | (intro w hSw; obtain ⟨s0, s5⟩ := hSw; go_simp; done) | (intro w hSw; obtain ⟨s0, s5⟩ := hSw; go_simp; with_reducible rfl)
          try simp only [Act.put, List.setIfInBounds_toArray, List.set_cons_zero, List.set_cons_succ]
          refine wpAnyH_take (i := 2) (oi := { dst := some 24, op := _, type := _, pos := _, after := _, guard := _ }) (v := ?vb2_17) rfl (by kernel_rfl) (by kernel_rfl) (by kernel_rfl) (fun _ _ _ h => h) (Or.inl ⟨by kernel_rfl, ?hb2_17⟩) hSa ?rb2_17
          case hb2_17 => first | (intro w hSw; obtain ⟨s0, s5⟩ := hSw; go_simp; done) | (intro w hSw; obtain ⟨s0, s5⟩ := hSw; go_simp; with_reducible rfl)
          try simp only [Act.put, List.setIfInBounds_toArray, List.set_cons_zero, List.set_cons_succ]
          refine wpAnyH_take (i := 3) (oi := { dst := some 25, op := _, type := _, pos := _, after := _, guard := _ }) (v := ?vb3_18) rfl (by kernel_rfl) (by kernel_rfl) (by kernel_rfl) (fun _ _ _ h => h) (Or.inl ⟨by kernel_rfl, ?hb3_18⟩) hSa ?rb3_18
          case hb3_18 => first | (intro w hSw; obtain ⟨s0, s5⟩ := hSw; go_simp; done) | (intro w hSw; obtain ⟨s0, s5⟩ := hSw; go_simp; with_reducible rfl)
          try simp only [Act.put, List.setIfInBounds_toArray, List.set_cons_zero, List.set_cons_succ]
          refine wpAnyH_take (i := 4) (oi := { dst := some 26, op := _, type := _, pos := _, after := _, guard := _ }) (v := ?vb4_19) rfl (by kernel_rfl) (by kernel_rfl) (by kernel_rfl) (fun _ _ _ h => h) (Or.inl ⟨by kernel_rfl, ?hb4_19⟩) hSa ?rb4_19
          case hb4_19 => first | (intro w hSw; obtain ⟨s0, s5⟩ := hSw; go_simp; done) | (intro w hSw; obtain ⟨s0, s5⟩ := hSw; go_simp; with_reducible rfl)
          try simp only [Act.put, List.setIfInBounds_toArray, List.set_cons_zero, List.set_cons_succ]
          refine wpAnyH_take (i := 5) (oi := { dst := some 27, op := _, type := _, pos := _, after := _, guard := _ }) (v := ?vb5_20) rfl (by kernel_rfl) (by kernel_rfl) (by kernel_rfl) (fun _ _ _ h => h) (Or.inl ⟨by kernel_rfl, ?hb5_20⟩) hSa ?rb5_20
          case hb5_20 => first | (intro w hSw; obtain ⟨s0, s5⟩ := hSw; go_simp; done) | (intro w hSw; obtain ⟨s0, s5⟩ := hSw; go_simp; with_reducible rfl)
          try simp only [Act.put, List.setIfInBounds_toArray, List.set_cons_zero, List.set_cons_succ]
          refine wpAnyH_take (i := 6) (oi := { dst := some 28, op := _, type := _, pos := _, after := _, guard := _ }) (v := ?vb6_21) rfl (by kernel_rfl) (by kernel_rfl) (by kernel_rfl) (fun _ _ _ h => h) (Or.inl ⟨by kernel_rfl, ?hb6_21⟩) hSa ?rb6_21
          case hb6_21 => first | (intro w hSw; obtain ⟨s0, s5⟩ := hSw; go_simp; done) | (intro w hSw; obtain ⟨s0, s5⟩ := hSw; go_simp; with_reducible rfl)
          try simp only [Act.put, List.setIfInBounds_toArray, List.set_cons_zero, List.set_cons_succ]
          refine wpAnyH_take (i := 7) (oi := { dst := some 29, op := _, type := _, pos := _, after := _, guard := _ }) (v := ?vb7_22) rfl (by kernel_rfl) (by kernel_rfl) (by kernel_rfl) (fun _ _ _ h => h) (Or.inl ⟨by kernel_rfl, ?hb7_22⟩) hSa ?rb7_22
          case hb7_22 => first | (intro w hSw; obtain ⟨s0, s5⟩ := hSw; go_simp; done) | (intro w hSw; obtain ⟨s0, s5⟩ := hSw; go_simp; with_reducible rfl)
          try simp only [Act.put, List.setIfInBounds_toArray, List.set_cons_zero, List.set_cons_succ]
          refine wpAnyH_ready (rs := [8]) (by kernel_rfl) (by simp) ?_
          refine AllReadyH.cons rfl (fun K hK => ?_) AllReadyH.nil
          go_simp
          refine (unhide CG (ys ++ [L0]) (.slice a4 (ys.length + 1) c4) w5.drew (by rw [List.length_append]; exact unhide HKC) (unhide H5).1 (unhide H5).2).mono ?_
          rintro e w6 ⟨rfl, ⟨v6, hI6⟩, hb6⟩
          have H6 := hide (And.intro hI6 hb6)
          have hSa' : KeepG Q (.func (.func 47) #[] #[.pointer (some ⟨P, 0, none⟩), .pointer (some ⟨Q, 0, none⟩)]) g (o + j * 6 + 5) (.slice qk kids.len ck) w6 := ⟨hI6.fn.cell 0, cell_later hb6 (unhide HL5)⟩
          clear hI6 hb6 CG
          refine hK _ _ hSa' (fun _ => ?_)
          clear hK K hSa
          have hSa := hSa'
          clear hSa'
          refine wpAnyH_done (by kernel_rfl) ?_ _
          clear hSa hwd
          go_wp2
          go_roundw
          case rel => exact ⟨j + 1, ys ++ [L0] ++ lnF kids (d + 1), v6, by omega, by go_num, by rw [← unhide HLN]; simp [List.append_assoc], (unhide H6).1, (unhide H6).2⟩
          case measure => simp [intOf]; omega
        · go_simp
          refine (unhide CL _ (unhide H1).2).mono ?_
          rintro e w2 ⟨rfl, hb2⟩
          have H2 := hide (And.intro ((unhide H1).1.later hb2) ((unhide H1).2.trans (hb2.mono (unhide H1).2.size)))
          have hSa' : True := trivial
          clear hb2 CL
          refine hK _ _ hSa' (fun _ => ?_)
          clear hK K hSa
          have hSa := hSa'
          clear hSa'
          refine wpAnyH_take (i := 7) (oi := { dst := some 19, op := _, type := _, pos := _, after := _, guard := _ }) (v := ?va7_23) rfl (by kernel_rfl) (by kernel_rfl) (by kernel_rfl) (fun _ _ _ h => h) (Or.inl ⟨by kernel_rfl, ?ha7_23⟩) hSa ?ra7_23
          case ha7_23 => first | (intro w hSw; obtain _ := hSw; go_simp; done) | (intro w hSw; obtain _ := hSw; go_simp; with_reducible rfl)
          try simp only [Act.put, List.setIfInBounds_toArray, List.set_cons_zero, List.set_cons_succ]
          refine wpAnyH_ready (rs := [0, 8]) (by kernel_rfl) (by simp) ?_
          refine AllReadyH.cons rfl (fun K hK => ?_) (AllReadyH.cons rfl (fun K hK => ?_) AllReadyH.nil)
          · have x0 := (unhide H2).1.blk.cell 0
            go_simp
            have hSa' : True := trivial
            clear x0
            refine hK _ _ hSa' (fun _ => ?_)
            clear hK K hSa
            have hSa := hSa'
            clear hSa'
            refine wpAnyH_ready (rs := [8]) (by kernel_rfl) (by simp) ?_
            refine AllReadyH.cons rfl (fun K hK => ?_) AllReadyH.nil
            go_simp
            have hA3 := (Below.refl w2.heap.size w2).alloc (Nat.le_refl _) (Obj.cells #[.string (s1 ++ s2)] 9)
            have H3 := hide (And.intro ((unhide H2).1.later hA3) ((unhide H2).2.trans (hA3.mono (unhide H2).2.size)))
            have hSa' : True := trivial
            clear hA3
            refine hK _ _ hSa' (fun _ => ?_)
            clear hK K hSa
            have hSa := hSa'
            clear hSa'
            refine wpAnyH_ready (rs := [9]) (by kernel_rfl) (by simp) ?_
            refine AllReadyH.cons rfl (fun K hK => ?_) AllReadyH.nil
            obtain ⟨w4, v4, hr, hown, hgr⟩ : ∃ w4 v4, (Builtin.append_ #[36, 36] 36 #[v, .slice (some ⟨w2.heap.size, 0, none⟩) 1 1]).run Tryd.prog (w2.alloc (Obj.cells #[.string (s1 ++ s2)] 9)) = .ok v4 w4 ∧ w4.ownsRow w0.heap.size 9 1 v4 (ys.length + 1) (ys.map Value.string ++ [.string (s1 ++ s2)]) ∧ (w2.alloc (Obj.cells #[.string (s1 ++ s2)] 9)).grownBy w4 v.ownBlock := by
              obtain ⟨v4, w4, h1, h2, h3, _⟩ := run_append_own (P := Tryd.prog) (w2.alloc (Obj.cells #[.string (s1 ++ s2)] 9)) w0.heap.size 36 36 9 i0 (.string ⟨#[]⟩) 1 16 Tryd.underlying36 hi0 hi1 hi2 hi3 rfl (by decide) v ys.length (ys.map Value.string) (unhide H3).1.row ⟨w2.heap.size, 0, none⟩ 1 1 [.string (s1 ++ s2)] rfl (fun j u hj => lit1 hj) (fun u hu => by simp at hu; rw [hu]; rfl) (by unfold maxLen; omega) (by omega) (by have := (unhide H3).2.size; exact this)
              exact ⟨w4, v4, h1, h2, h3⟩
            obtain ⟨a5, n5, c5, hv⟩ : ∃ a5 n5 c5, v = .slice a5 n5 c5 := by obtain ⟨a5, c5, h⟩ := slice_n (unhide H3).1.row; exact ⟨a5, _, c5, h⟩
            refine step_append_run (o := { dst := some 21, op := _, type := _, pos := _, after := _, guard := _ }) rfl (.tmp 12) (.tmp 20) 36 36 rfl v (.slice (some ⟨w2.heap.size, 0, none⟩) 1 1) (by simp [Act.eval, Act.put]) (by simp [Act.eval, Act.put]) hr ?_
            simp only [Act.put, List.setIfInBounds_toArray, List.set_cons_zero, List.set_cons_succ]
            have hne : ∀ b, v.ownBlock = some b → b ≠ P ∧ b ≠ Q ∧ w0.heap.size ≤ b := fun b hb => row_apart (unhide H3).1 hb
            have hb4 := (unhide H3).2.grown hgr (unhide H3).2.size (fun k hk => (hne k hk).2.2)
            have kP : Blk w4 P #[v] 36 := (hgr.block P (unhide H3).1.blk.lt (fun e => (hne P e.symm).1 rfl)).trans (unhide H3).1.blk
            have kQ : Blk w4 Q #[(.func (.func 47) #[] #[.pointer (some ⟨P, 0, none⟩), .pointer (some ⟨Q, 0, none⟩)])] 71 := (hgr.block Q (unhide H3).1.fn.lt (fun e => (hne Q e.symm).2.1 rfl)).trans (unhide H3).1.fn
            have H4 := hide (And.intro hown (And.intro kP (And.intro kQ hb4)))
            obtain ⟨a4, c4, hv4⟩ := slice_n hown
            subst hv4
            have hSa' : True := trivial
            clear hr hown hgr hne hb4 kP kQ
            refine hK _ _ hSa' (fun _ => ?_)
            clear hK K hSa
            have hSa := hSa'
            clear hSa'
            refine wpAnyH_ready (rs := [10]) (by kernel_rfl) (by simp) ?_
            refine AllReadyH.cons rfl (fun K hK => ?_) AllReadyH.nil
            have x0 := (unhide H4).2.1.cell 0
            have f0 := (unhide H4).2.1.frozen 0
            go_simp
            have hSa' : True := trivial
            clear x0 f0
            refine hK _ _ hSa' (fun _ => ?_)
            clear hK K hSa
            have hSa := hSa'
            clear hSa'
            refine wpAnyH_done (by kernel_rfl) ?_ _
            clear hSa
            try simp only [Act.put, List.setIfInBounds_toArray, List.set_cons_zero, List.set_cons_succ]
            have hI5 : LnAt w0.heap.size P Q (ys ++ [L0]) (.slice a4 (ys.length + 1) c4) (w4.setCell ⟨P, 0, none⟩ (.slice a4 (ys.length + 1) c4)) := by
              rw [unhide HBS] at H4
              exact lnat_store (unhide H4).2.1 (unhide H4).1 (unhide H4).2.2.1 (unhide HPQ).2.2
            have hb5 := (unhide H4).2.2.2.setCell (p := ⟨P, 0, none⟩) (unhide HPQ).1 (.slice a4 (ys.length + 1) c4)
            generalize w4.setCell ⟨P, 0, none⟩ (.slice a4 (ys.length + 1) c4) = w5 at *
            have hD5 : Below w5.heap.size w5 w5.drew := below_draws w5 1
            have H5 := hide (And.intro (hI5.later hD5) (hb5.trans (hD5.mono hb5.size)))
            have HS5 : Hid (KeepG Q (.func (.func 47) #[] #[.pointer (some ⟨P, 0, none⟩), .pointer (some ⟨Q, 0, none⟩)]) g (o + j * 6 + 5) (.slice qk kids.len ck) w5.drew) := hide ⟨(unhide H5).1.fn.cell 0, cell_later (unhide H5).2 (unhide HL5)⟩
            clear hI5 hb5 hD5 z1
            have hwd : IntKind.i64.wrap ((d : Int) + 1) = (d : Int) + 1 := by simp [IntKind.wrap, IntKind.bits, IntKind.signed]; omega
            go_wp2_with fail
            have hSa := unhide HS5
            refine wp_region_held (S := KeepG Q (.func (.func 47) #[] #[.pointer (some ⟨P, 0, none⟩), .pointer (some ⟨Q, 0, none⟩)]) g (o + j * 6 + 5) (.slice qk kids.len ck)) (by kernel_rfl) ?_
            change wpAnyH _ _ _ _ _ _ _ _ (World.drew _)
            refine wpAnyH_take (i := 0) (oi := { dst := some 22, op := _, type := _, pos := _, after := _, guard := _ }) (v := ?vb0_24) rfl (by kernel_rfl) (by kernel_rfl) (by kernel_rfl) (fun _ _ _ h => h) (Or.inl ⟨by kernel_rfl, ?hb0_24⟩) hSa ?rb0_24
            case hb0_24 => first | (intro w hSw; obtain ⟨s0, s5⟩ := hSw; go_simp; done) | (intro w hSw; obtain ⟨s0, s5⟩ := hSw; go_simp; with_reducible rfl)
            try simp only [Act.put, List.setIfInBounds_toArray, List.set_cons_zero, List.set_cons_succ]
            refine wpAnyH_take (i := 1) (oi := { dst := some 23, op := _, type := _, pos := _, after := _, guard := _ }) (v := ?vb1_25) rfl (by kernel_rfl) (by kernel_rfl) (by kernel_rfl) (fun _ _ _ h => h) (Or.inl ⟨by kernel_rfl, ?hb1_25⟩) hSa ?rb1_25
            case hb1_25 => first | (intro w hSw; obtain ⟨s0, s5⟩ := hSw; go_simp; done) | (intro w hSw; obtain ⟨s0, s5⟩ := hSw; go_simp; with_reducible rfl)
            try simp only [Act.put, List.setIfInBounds_toArray, List.set_cons_zero, List.set_cons_succ]
            refine wpAnyH_take (i := 2) (oi := { dst := some 24, op := _, type := _, pos := _, after := _, guard := _ }) (v := ?vb2_26) rfl (by kernel_rfl) (by kernel_rfl) (by kernel_rfl) (fun _ _ _ h => h) (Or.inl ⟨by kernel_rfl, ?hb2_26⟩) hSa ?rb2_26
            case hb2_26 => first | (intro w hSw; obtain ⟨s0, s5⟩ := hSw; go_simp; done) | (intro w hSw; obtain ⟨s0, s5⟩ := hSw; go_simp; with_reducible rfl)
            try simp only [Act.put, List.setIfInBounds_toArray, List.set_cons_zero, List.set_cons_succ]
            refine wpAnyH_take (i := 3) (oi := { dst := some 25, op := _, type := _, pos := _, after := _, guard := _ }) (v := ?vb3_27) rfl (by kernel_rfl) (by kernel_rfl) (by kernel_rfl) (fun _ _ _ h => h) (Or.inl ⟨by kernel_rfl, ?hb3_27⟩) hSa ?rb3_27
            case hb3_27 => first | (intro w hSw; obtain ⟨s0, s5⟩ := hSw; go_simp; done) | (intro w hSw; obtain ⟨s0, s5⟩ := hSw; go_simp; with_reducible rfl)
            try simp only [Act.put, List.setIfInBounds_toArray, List.set_cons_zero, List.set_cons_succ]
            refine wpAnyH_take (i := 4) (oi := { dst := some 26, op := _, type := _, pos := _, after := _, guard := _ }) (v := ?vb4_28) rfl (by kernel_rfl) (by kernel_rfl) (by kernel_rfl) (fun _ _ _ h => h) (Or.inl ⟨by kernel_rfl, ?hb4_28⟩) hSa ?rb4_28
            case hb4_28 => first | (intro w hSw; obtain ⟨s0, s5⟩ := hSw; go_simp; done) | (intro w hSw; obtain ⟨s0, s5⟩ := hSw; go_simp; with_reducible rfl)
            try simp only [Act.put, List.setIfInBounds_toArray, List.set_cons_zero, List.set_cons_succ]
            refine wpAnyH_take (i := 5) (oi := { dst := some 27, op := _, type := _, pos := _, after := _, guard := _ }) (v := ?vb5_29) rfl (by kernel_rfl) (by kernel_rfl) (by kernel_rfl) (fun _ _ _ h => h) (Or.inl ⟨by kernel_rfl, ?hb5_29⟩) hSa ?rb5_29
            case hb5_29 => first | (intro w hSw; obtain ⟨s0, s5⟩ := hSw; go_simp; done) | (intro w hSw; obtain ⟨s0, s5⟩ := hSw; go_simp; with_reducible rfl)
            try simp only [Act.put, List.setIfInBounds_toArray, List.set_cons_zero, List.set_cons_succ]
            refine wpAnyH_take (i := 6) (oi := { dst := some 28, op := _, type := _, pos := _, after := _, guard := _ }) (v := ?vb6_30) rfl (by kernel_rfl) (by kernel_rfl) (by kernel_rfl) (fun _ _ _ h => h) (Or.inl ⟨by kernel_rfl, ?hb6_30⟩) hSa ?rb6_30
            case hb6_30 => first | (intro w hSw; obtain ⟨s0, s5⟩ := hSw; go_simp; done) | (intro w hSw; obtain ⟨s0, s5⟩ := hSw; go_simp; with_reducible rfl)
            try simp only [Act.put, List.setIfInBounds_toArray, List.set_cons_zero, List.set_cons_succ]
            refine wpAnyH_take (i := 7) (oi := { dst := some 29, op := _, type := _, pos := _, after := _, guard := _ }) (v := ?vb7_31) rfl (by kernel_rfl) (by kernel_rfl) (by kernel_rfl) (fun _ _ _ h => h) (Or.inl ⟨by kernel_rfl, ?hb7_31⟩) hSa ?rb7_31
            case hb7_31 => first | (intro w hSw; obtain ⟨s0, s5⟩ := hSw; go_simp; done) | (intro w hSw; obtain ⟨s0, s5⟩ := hSw; go_simp; with_reducible rfl)
            try simp only [Act.put, List.setIfInBounds_toArray, List.set_cons_zero, List.set_cons_succ]
            refine wpAnyH_ready (rs := [8]) (by kernel_rfl) (by simp) ?_
            refine AllReadyH.cons rfl (fun K hK => ?_) AllReadyH.nil
            go_simp
            refine (unhide CG (ys ++ [L0]) (.slice a4 (ys.length + 1) c4) w5.drew (by rw [List.length_append]; exact unhide HKC) (unhide H5).1 (unhide H5).2).mono ?_
            rintro e w6 ⟨rfl, ⟨v6, hI6⟩, hb6⟩
            have H6 := hide (And.intro hI6 hb6)
            have hSa' : KeepG Q (.func (.func 47) #[] #[.pointer (some ⟨P, 0, none⟩), .pointer (some ⟨Q, 0, none⟩)]) g (o + j * 6 + 5) (.slice qk kids.len ck) w6 := ⟨hI6.fn.cell 0, cell_later hb6 (unhide HL5)⟩
            clear hI6 hb6 CG
            refine hK _ _ hSa' (fun _ => ?_)
            clear hK K hSa
            have hSa := hSa'
            clear hSa'
            refine wpAnyH_done (by kernel_rfl) ?_ _
            clear hSa hwd
            go_wp2
            go_roundw
            case rel => exact ⟨j + 1, ys ++ [L0] ++ lnF kids (d + 1), v6, by omega, by go_num, by rw [← unhide HLN]; simp [List.append_assoc], (unhide H6).1, (unhide H6).2⟩
            case measure => simp [intOf]; omega
          · go_simp
            have hA3 := (Below.refl w2.heap.size w2).alloc (Nat.le_refl _) (Obj.cells #[.string (s1 ++ s2)] 9)
            have H3 := hide (And.intro ((unhide H2).1.later hA3) ((unhide H2).2.trans (hA3.mono (unhide H2).2.size)))
            have hSa' : True := trivial
            clear hA3
            refine hK _ _ hSa' (fun _ => ?_)
            clear hK K hSa
            have hSa := hSa'
            clear hSa'
            refine wpAnyH_ready (rs := [0]) (by kernel_rfl) (by simp) ?_
            refine AllReadyH.cons rfl (fun K hK => ?_) AllReadyH.nil
            have x0 := (unhide H3).1.blk.cell 0
            go_simp
            have hSa' : True := trivial
            clear x0
            refine hK _ _ hSa' (fun _ => ?_)
            clear hK K hSa
            have hSa := hSa'
            clear hSa'
            refine wpAnyH_ready (rs := [9]) (by kernel_rfl) (by simp) ?_
            refine AllReadyH.cons rfl (fun K hK => ?_) AllReadyH.nil
            obtain ⟨w4, v4, hr, hown, hgr⟩ : ∃ w4 v4, (Builtin.append_ #[36, 36] 36 #[v, .slice (some ⟨w2.heap.size, 0, none⟩) 1 1]).run Tryd.prog (w2.alloc (Obj.cells #[.string (s1 ++ s2)] 9)) = .ok v4 w4 ∧ w4.ownsRow w0.heap.size 9 1 v4 (ys.length + 1) (ys.map Value.string ++ [.string (s1 ++ s2)]) ∧ (w2.alloc (Obj.cells #[.string (s1 ++ s2)] 9)).grownBy w4 v.ownBlock := by
              obtain ⟨v4, w4, h1, h2, h3, _⟩ := run_append_own (P := Tryd.prog) (w2.alloc (Obj.cells #[.string (s1 ++ s2)] 9)) w0.heap.size 36 36 9 i0 (.string ⟨#[]⟩) 1 16 Tryd.underlying36 hi0 hi1 hi2 hi3 rfl (by decide) v ys.length (ys.map Value.string) (unhide H3).1.row ⟨w2.heap.size, 0, none⟩ 1 1 [.string (s1 ++ s2)] rfl (fun j u hj => lit1 hj) (fun u hu => by simp at hu; rw [hu]; rfl) (by unfold maxLen; omega) (by omega) (by have := (unhide H3).2.size; exact this)
              exact ⟨w4, v4, h1, h2, h3⟩
            obtain ⟨a5, n5, c5, hv⟩ : ∃ a5 n5 c5, v = .slice a5 n5 c5 := by obtain ⟨a5, c5, h⟩ := slice_n (unhide H3).1.row; exact ⟨a5, _, c5, h⟩
            refine step_append_run (o := { dst := some 21, op := _, type := _, pos := _, after := _, guard := _ }) rfl (.tmp 12) (.tmp 20) 36 36 rfl v (.slice (some ⟨w2.heap.size, 0, none⟩) 1 1) (by simp [Act.eval, Act.put]) (by simp [Act.eval, Act.put]) hr ?_
            simp only [Act.put, List.setIfInBounds_toArray, List.set_cons_zero, List.set_cons_succ]
            have hne : ∀ b, v.ownBlock = some b → b ≠ P ∧ b ≠ Q ∧ w0.heap.size ≤ b := fun b hb => row_apart (unhide H3).1 hb
            have hb4 := (unhide H3).2.grown hgr (unhide H3).2.size (fun k hk => (hne k hk).2.2)
            have kP : Blk w4 P #[v] 36 := (hgr.block P (unhide H3).1.blk.lt (fun e => (hne P e.symm).1 rfl)).trans (unhide H3).1.blk
            have kQ : Blk w4 Q #[(.func (.func 47) #[] #[.pointer (some ⟨P, 0, none⟩), .pointer (some ⟨Q, 0, none⟩)])] 71 := (hgr.block Q (unhide H3).1.fn.lt (fun e => (hne Q e.symm).2.1 rfl)).trans (unhide H3).1.fn
            have H4 := hide (And.intro hown (And.intro kP (And.intro kQ hb4)))
            obtain ⟨a4, c4, hv4⟩ := slice_n hown
            subst hv4
            have hSa' : True := trivial
            clear hr hown hgr hne hb4 kP kQ
            refine hK _ _ hSa' (fun _ => ?_)
            clear hK K hSa
            have hSa := hSa'
            clear hSa'
            refine wpAnyH_ready (rs := [10]) (by kernel_rfl) (by simp) ?_
            refine AllReadyH.cons rfl (fun K hK => ?_) AllReadyH.nil
            have x0 := (unhide H4).2.1.cell 0
            have f0 := (unhide H4).2.1.frozen 0
            go_simp
            have hSa' : True := trivial
            clear x0 f0
            refine hK _ _ hSa' (fun _ => ?_)
            clear hK K hSa
            have hSa := hSa'
            clear hSa'
            refine wpAnyH_done (by kernel_rfl) ?_ _
            clear hSa
            try simp only [Act.put, List.setIfInBounds_toArray, List.set_cons_zero, List.set_cons_succ]
            have hI5 : LnAt w0.heap.size P Q (ys ++ [L0]) (.slice a4 (ys.length + 1) c4) (w4.setCell ⟨P, 0, none⟩ (.slice a4 (ys.length + 1) c4)) := by
              rw [unhide HBS] at H4
              exact lnat_store (unhide H4).2.1 (unhide H4).1 (unhide H4).2.2.1 (unhide HPQ).2.2
            have hb5 := (unhide H4).2.2.2.setCell (p := ⟨P, 0, none⟩) (unhide HPQ).1 (.slice a4 (ys.length + 1) c4)
            generalize w4.setCell ⟨P, 0, none⟩ (.slice a4 (ys.length + 1) c4) = w5 at *
            have hD5 : Below w5.heap.size w5 w5.drew := below_draws w5 1
            have H5 := hide (And.intro (hI5.later hD5) (hb5.trans (hD5.mono hb5.size)))
            have HS5 : Hid (KeepG Q (.func (.func 47) #[] #[.pointer (some ⟨P, 0, none⟩), .pointer (some ⟨Q, 0, none⟩)]) g (o + j * 6 + 5) (.slice qk kids.len ck) w5.drew) := hide ⟨(unhide H5).1.fn.cell 0, cell_later (unhide H5).2 (unhide HL5)⟩
            clear hI5 hb5 hD5 z1
            have hwd : IntKind.i64.wrap ((d : Int) + 1) = (d : Int) + 1 := by simp [IntKind.wrap, IntKind.bits, IntKind.signed]; omega
            go_wp2_with fail
            have hSa := unhide HS5
            refine wp_region_held (S := KeepG Q (.func (.func 47) #[] #[.pointer (some ⟨P, 0, none⟩), .pointer (some ⟨Q, 0, none⟩)]) g (o + j * 6 + 5) (.slice qk kids.len ck)) (by kernel_rfl) ?_
            change wpAnyH _ _ _ _ _ _ _ _ (World.drew _)
            refine wpAnyH_take (i := 0) (oi := { dst := some 22, op := _, type := _, pos := _, after := _, guard := _ }) (v := ?vb0_32) rfl (by kernel_rfl) (by kernel_rfl) (by kernel_rfl) (fun _ _ _ h => h) (Or.inl ⟨by kernel_rfl, ?hb0_32⟩) hSa ?rb0_32
            case hb0_32 => first | (intro w hSw; obtain ⟨s0, s5⟩ := hSw; go_simp; done) | (intro w hSw; obtain ⟨s0, s5⟩ := hSw; go_simp; with_reducible rfl)
            try simp only [Act.put, List.setIfInBounds_toArray, List.set_cons_zero, List.set_cons_succ]
            refine wpAnyH_take (i := 1) (oi := { dst := some 23, op := _, type := _, pos := _, after := _, guard := _ }) (v := ?vb1_33) rfl (by kernel_rfl) (by kernel_rfl) (by kernel_rfl) (fun _ _ _ h => h) (Or.inl ⟨by kernel_rfl, ?hb1_33⟩) hSa ?rb1_33
            case hb1_33 => first | (intro w hSw; obtain ⟨s0, s5⟩ := hSw; go_simp; done) | (intro w hSw; obtain ⟨s0, s5⟩ := hSw; go_simp; with_reducible rfl)
            try simp only [Act.put, List.setIfInBounds_toArray, List.set_cons_zero, List.set_cons_succ]
            refine wpAnyH_take (i := 2) (oi := { dst := some 24, op := _, type := _, pos := _, after := _, guard := _ }) (v := ?vb2_34) rfl (by kernel_rfl) (by kernel_rfl) (by kernel_rfl) (fun _ _ _ h => h) (Or.inl ⟨by kernel_rfl, ?hb2_34⟩) hSa ?rb2_34
            case hb2_34 => first | (intro w hSw; obtain ⟨s0, s5⟩ := hSw; go_simp; done) | (intro w hSw; obtain ⟨s0, s5⟩ := hSw; go_simp; with_reducible rfl)
            try simp only [Act.put, List.setIfInBounds_toArray, List.set_cons_zero, List.set_cons_succ]
            refine wpAnyH_take (i := 3) (oi := { dst := some 25, op := _, type := _, pos := _, after := _, guard := _ }) (v := ?vb3_35) rfl (by kernel_rfl) (by kernel_rfl) (by kernel_rfl) (fun _ _ _ h => h) (Or.inl ⟨by kernel_rfl, ?hb3_35⟩) hSa ?rb3_35
            case hb3_35 => first | (intro w hSw; obtain ⟨s0, s5⟩ := hSw; go_simp; done) | (intro w hSw; obtain ⟨s0, s5⟩ := hSw; go_simp; with_reducible rfl)
            try simp only [Act.put, List.setIfInBounds_toArray, List.set_cons_zero, List.set_cons_succ]
            refine wpAnyH_take (i := 4) (oi := { dst := some 26, op := _, type := _, pos := _, after := _, guard := _ }) (v := ?vb4_36) rfl (by kernel_rfl) (by kernel_rfl) (by kernel_rfl) (fun _ _ _ h => h) (Or.inl ⟨by kernel_rfl, ?hb4_36⟩) hSa ?rb4_36
            case hb4_36 => first | (intro w hSw; obtain ⟨s0, s5⟩ := hSw; go_simp; done) | (intro w hSw; obtain ⟨s0, s5⟩ := hSw; go_simp; with_reducible rfl)
            try simp only [Act.put, List.setIfInBounds_toArray, List.set_cons_zero, List.set_cons_succ]
            refine wpAnyH_take (i := 5) (oi := { dst := some 27, op := _, type := _, pos := _, after := _, guard := _ }) (v := ?vb5_37) rfl (by kernel_rfl) (by kernel_rfl) (by kernel_rfl) (fun _ _ _ h => h) (Or.inl ⟨by kernel_rfl, ?hb5_37⟩) hSa ?rb5_37
            case hb5_37 => first | (intro w hSw; obtain ⟨s0, s5⟩ := hSw; go_simp; done) | (intro w hSw; obtain ⟨s0, s5⟩ := hSw; go_simp; with_reducible rfl)
            try simp only [Act.put, List.setIfInBounds_toArray, List.set_cons_zero, List.set_cons_succ]
            refine wpAnyH_take (i := 6) (oi := { dst := some 28, op := _, type := _, pos := _, after := _, guard := _ }) (v := ?vb6_38) rfl (by kernel_rfl) (by kernel_rfl) (by kernel_rfl) (fun _ _ _ h => h) (Or.inl ⟨by kernel_rfl, ?hb6_38⟩) hSa ?rb6_38
            case hb6_38 => first | (intro w hSw; obtain ⟨s0, s5⟩ := hSw; go_simp; done) | (intro w hSw; obtain ⟨s0, s5⟩ := hSw; go_simp; with_reducible rfl)
            try simp only [Act.put, List.setIfInBounds_toArray, List.set_cons_zero, List.set_cons_succ]
            refine wpAnyH_take (i := 7) (oi := { dst := some 29, op := _, type := _, pos := _, after := _, guard := _ }) (v := ?vb7_39) rfl (by kernel_rfl) (by kernel_rfl) (by kernel_rfl) (fun _ _ _ h => h) (Or.inl ⟨by kernel_rfl, ?hb7_39⟩) hSa ?rb7_39
            case hb7_39 => first | (intro w hSw; obtain ⟨s0, s5⟩ := hSw; go_simp; done) | (intro w hSw; obtain ⟨s0, s5⟩ := hSw; go_simp; with_reducible rfl)
            try simp only [Act.put, List.setIfInBounds_toArray, List.set_cons_zero, List.set_cons_succ]
            refine wpAnyH_ready (rs := [8]) (by kernel_rfl) (by simp) ?_
            refine AllReadyH.cons rfl (fun K hK => ?_) AllReadyH.nil
            go_simp
            refine (unhide CG (ys ++ [L0]) (.slice a4 (ys.length + 1) c4) w5.drew (by rw [List.length_append]; exact unhide HKC) (unhide H5).1 (unhide H5).2).mono ?_
            rintro e w6 ⟨rfl, ⟨v6, hI6⟩, hb6⟩
            have H6 := hide (And.intro hI6 hb6)
            have hSa' : KeepG Q (.func (.func 47) #[] #[.pointer (some ⟨P, 0, none⟩), .pointer (some ⟨Q, 0, none⟩)]) g (o + j * 6 + 5) (.slice qk kids.len ck) w6 := ⟨hI6.fn.cell 0, cell_later hb6 (unhide HL5)⟩
            clear hI6 hb6 CG
            refine hK _ _ hSa' (fun _ => ?_)
            clear hK K hSa
            have hSa := hSa'
            clear hSa'
            refine wpAnyH_done (by kernel_rfl) ?_ _
            clear hSa hwd
            go_wp2
            go_roundw
            case rel => exact ⟨j + 1, ys ++ [L0] ++ lnF kids (d + 1), v6, by omega, by go_num, by rw [← unhide HLN]; simp [List.append_assoc], (unhide H6).1, (unhide H6).2⟩
            case measure => simp [intOf]; omega
    · have hpi : ¬ (j : Int) < (f.len : Int) := by omega
      rw [f.drop_out j (by omega)] at hys
      have HF : Hid (ys = xs ++ lnF f d) := hide (by rw [← hys]; simp [lnF])
      have HX := hide (And.intro hI hbw)
      clear hp hys hI hbw hyl
      go_wp2
      refine bodyPost_end (v := .tuple #[]) (results_none Tryd.results47 _ _ _) rfl ?_
      exact ⟨rfl, ⟨v, by rw [← unhide HF]; exact (unhide HX).1⟩, (unhide HX).2⟩
theorem gather_any (w0 : World) (ht : Tabs w0) (hm : MxJ w0) (P Q : Nat) (hP : w0.heap.size ≤ P) (hQ : w0.heap.size ≤ Q) (hPQ : P ≠ Q) : ∀ (m : Nat) (f : Forest), f.count ≤ m → ∀ (q : Option Addr) (cap d : Nat) (xs : List ByteArray) (v : Value) (w : World), Fo q f w0 → SmF f → d + m ≤ 1000000 → xs.length + f.count ≤ 1000000 → LnAt w0.heap.size P Q xs v w → Below w0.heap.size w0 w →
    Calls Tryd.prog 47 #[.slice q f.len cap, .int .i64 d, .pointer (some ⟨P, 0, none⟩), .pointer (some ⟨Q, 0, none⟩)] w (LnSaid w0 P Q (xs ++ lnF f d))
  | m, f, hmc, q, cap, d, xs, v, w, hf, hsm, hd, hxs, hI, hb => by
    rcases hf with rfl | ⟨g, o, rfl, hl⟩
    · refine (gather_none w0.heap.size P Q q cap d w).mono ?_
      rintro e w' ⟨rfl, rfl⟩
      exact ⟨rfl, ⟨v, by simpa [lnF] using hI⟩, hb⟩
    · refine gather_some w0 ht hm P Q hP hQ hPQ f g o cap d xs v w hl hsm (by omega) hxs hI hb (fun j k sp n ats tx kids hdr q cap ys v W hfk h1 h2 h3 => ?_)
      have hc1 : (f.drop j).count ≤ f.count := f.count_drop j
      have hs := sm_drop' j f hsm
      rw [hdr] at hc1 hs
      have hc2 : 1 + kids.count + (f.drop (j + 1)).count ≤ f.count := hc1
      match m, hmc with
      | 0, hmc => omega
      | m + 1, hmc =>
        have := gather_any w0 ht hm P Q hP hQ hPQ m kids (by omega) q cap (d + 1) ys v W hfk hs.2.1 (by omega) h1 h2 h3
        rw [show ((d + 1 : Nat) : Int) = (d : Int) + 1 by omega] at this
        exact this
end Go.Proofs.YtpfnjgkfombmpaaDoor
