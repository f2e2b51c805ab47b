/-
  What 'print.Lines' does (made by mk_jls.py).
-/
import Derived.Test.YtfbgpodcdgmpjaaDoorJLn
namespace Go.Proofs.YtfbgpodcdgmpjaaDoor
open Go.RowKit
set_option linter.unusedVariables false
set_option linter.unusedSimpArgs false

def spL (d : Nat) : List UInt8 := Lib.repeatL [32] d
def lnF : Forest → Nat → List ByteArray
  | .nil, _ => []
  | .cons k sp n ats tx kids rest, d => bs (spL d ++ lnL k n.data.toList ats tx.data.toList) :: (lnF kids (d + 1) ++ lnF rest d)
theorem lnF_len : ∀ (f : Forest) (d : Nat), (lnF f d).length = f.count
  | .nil, d => rfl
  | .cons k sp n ats tx kids rest, d => by
    rw [lnF, List.length_cons, List.length_append, lnF_len kids, lnF_len rest]
    simp only [Forest.count]; omega
theorem spL_len (d : Nat) : (spL d).length = d := by unfold spL; rw [Lib.repeatL_length]; simp
theorem rep_any (d : Nat) (w : World) (hd : d ≤ 1000000) : Calls Tryd.prog 28 #[.string ⟨#[32]⟩, .int .i64 d] w fun e w' => e = .returned (.string (bs (spL d))) ∧ Below w.heap.size w w' :=
  Tryd.strings_Repeat ⟨#[32]⟩ d w (by omega) (by show 1 * d ≤ _; omega)
theorem ln_len {k : Int} {n tx : ByteArray} {ats : List (ByteArray × ByteArray)} (hf : Fits ats) (hn : n.size ≤ 5000) (ht : tx.size ≤ 5000) : (lnL k n.data.toList ats tx.data.toList).length ≤ 90000000 := by
  have h1 := att_len hf ats.length (Nat.le_refl _)
  have h2 := hf.1
  have h3 := data_len n
  have h4 := data_len tx
  unfold lnL
  split
  · unfold openL; simp only [List.length_append, List.length_cons, List.length_nil]; omega
  split
  · unfold flatL; rw [List.length_map]; omega
  · simp
theorem ownsRow_below' {w w' : World} {base : Nat} {e : TypeId} {size : Nat} {v : Value} {n : Nat} {xs : List Value} (h : w.ownsRow base e size v n xs) (hb : Below w.heap.size w w') : w'.ownsRow base e size v n xs := by
  obtain ⟨hl, h⟩ := h
  refine ⟨hl, ?_⟩
  rcases h with h | ⟨g, cap, cur, h1, h2, h3, h4, h5, h6, h7⟩
  · exact .inl h
  · exact .inr ⟨g, cap, cur, h1, h2, (hb.block g (Blk.lt (w := w) h3)).trans h3, h4, h5, h6, h7⟩
theorem sm_drop' : ∀ (j : Nat) (f : Forest), SmF f → SmF (f.drop j)
  | 0, f, h => by rw [Forest.drop_zero]; exact h
  | j + 1, .nil, h => by rw [Forest.drop_nil]; trivial
  | j + 1, .cons _ _ _ _ _ _ r, h => sm_drop' j r h.2.2
/-- Lines that are gathered: the variable, the row it names, and the function that gathers. -/
structure LnAt (base P Q : Nat) (xs : List ByteArray) (v : Value) (w : World) : Prop where
  blk : Blk w P #[v] 26
  row : w.ownsRow base 9 1 v xs.length (xs.map Value.string)
  fn : Blk w Q #[(.func (.func 27) #[] #[.pointer (some ⟨P, 0, none⟩), .pointer (some ⟨Q, 0, none⟩)])] 61
theorem LnAt.later {base P Q : Nat} {xs : List ByteArray} {v : Value} {w w' : World} (h : LnAt base P Q xs v w) (hb : Below w.heap.size w w') : LnAt base P Q xs v w' :=
  ⟨h.blk.later hb, ownsRow_below' h.row hb, h.fn.later hb⟩
theorem row_apart {base P Q : Nat} {xs : List ByteArray} {v : Value} {w : World} (h : LnAt base P Q xs v w) {b : Nat} (hb : v.ownBlock = some b) : b ≠ P ∧ b ≠ Q ∧ base ≤ b := by
  rcases h.row.2 with ⟨h1, _⟩ | ⟨g, cap, cur, h1, h2, h3, _⟩
  · rw [h1] at hb; cases hb
  · rw [h1] at hb
    have hg : g = b := by simpa [Value.ownBlock] using hb
    subst hg
    refine ⟨fun e => ?_, fun e => ?_, h2⟩
    · subst e
      have := h.blk
      unfold Blk at this
      rw [this] at h3
      injection h3 with h3
      injection h3 with _ h3
      revert h3; decide
    · subst e
      have := h.fn
      unfold Blk at this
      rw [this] at h3
      injection h3 with h3
      injection h3 with _ h3
      revert h3; decide
theorem lnat_store {base P Q : Nat} {ys : List ByteArray} {L : ByteArray} {v : Value} {a : Option Addr} {c : Nat} {w : World} (hP : Blk w P #[v] 26) (hrow : w.ownsRow base 9 1 (.slice a (ys.length + 1) c) (ys.length + 1) (ys.map Value.string ++ [.string L])) (hQ : Blk w Q #[(.func (.func 27) #[] #[.pointer (some ⟨P, 0, none⟩), .pointer (some ⟨Q, 0, none⟩)])] 61) (hPQ : P ≠ Q) :
    LnAt base P Q (ys ++ [L]) (.slice a (ys.length + 1) c) (w.setCell ⟨P, 0, none⟩ (.slice a (ys.length + 1) c)) := by
  refine ⟨hP.set 0 (by simp) _, ?_, hQ.away hPQ.symm _⟩
  rw [List.length_append, List.map_append]
  show (w.setCell ⟨P, 0, none⟩ _).ownsRow base _ 1 _ (ys.length + 1) (ys.map Value.string ++ [.string L])
  obtain ⟨hl, h⟩ := hrow
  refine ⟨hl, ?_⟩
  rcases h with h | ⟨g, cap, cur, h1, h2, h3, h4, h5, h6, h7⟩
  · exact .inl h
  · refine .inr ⟨g, cap, cur, h1, h2, (Below.heap_setCell w ⟨P, 0, none⟩ _ g ?_).trans h3, h4, h5, h6, h7⟩
    show g ≠ P
    intro e
    subst e
    unfold Blk at hP
    rw [hP] at h3
    injection h3 with h3
    injection h3 with _ h3
    revert h3; decide
theorem infoStr0 : (Tryd.prog.info? 9).map (fun i => (i.zero, i.size, i.bytes)) = some (some (.string ⟨#[]⟩), 1, 16) := by kernel_rfl
theorem str_one (xs : List ByteArray) : ∀ u ∈ xs.map Value.string, u.oneCell' = true := fun u hu => by
  obtain ⟨x, _, rfl⟩ := List.mem_map.1 hu
  rfl
set_option maxHeartbeats 1000000 in
theorem gather_none (base P Q : Nat) (q : Option Addr) (cap : Nat) (d : Int) (w : World) : Calls Tryd.prog 27 #[.slice q 0 cap, .int .i64 d, .pointer (some ⟨P, 0, none⟩), .pointer (some ⟨Q, 0, none⟩)] w fun e w' => e = .returned (.tuple #[]) ∧ w' = w := by
  go_enter Tryd.func27, Tryd.ntmps27
  go_wp2
  refine wp_loop_rounds 1 ?_
  rw [rounds_succ]; go_wp2
  refine bodyPost_end (v := .tuple #[]) (results_none Tryd.results27 _ _ _) rfl ?_
  exact ⟨rfl, rfl⟩
def LnSaid (w0 : World) (P Q : Nat) (xs : List ByteArray) (e : Ending) (w' : World) : Prop := e = .returned (.tuple #[]) ∧ (∃ v, LnAt w0.heap.size P Q xs v w') ∧ Below w0.heap.size w0 w'
def KeepG (Q : Nat) (fn : Value) (g o : Nat) (u : Value) (W : World) : Prop := W.cell? ⟨Q, 0, none⟩ = some fn ∧ W.cell? ⟨g, o, none⟩ = some u
set_option maxHeartbeats 1000000 in
set_option maxRecDepth 100000 in
theorem gather_some (w0 : World) (ht : Tabs w0) (hm : MxJ w0) (P Q : Nat) (hP : w0.heap.size ≤ P) (hQ : w0.heap.size ≤ Q) (hPQ : P ≠ Q) (f : Forest) (g o cap d : Nat) (xs : List ByteArray) (v : Value) (w : World) (hl : Lies f g o w0) (hsm : SmF f) (hd : d + f.count ≤ 1000000) (hxs : xs.length + f.count ≤ 1000000) (hI : LnAt w0.heap.size P Q xs v w) (hb : Below w0.heap.size w0 w)
    (ih : ∀ j k sp n ats tx kids, f.drop j = .cons k sp n ats tx kids (f.drop (j + 1)) → ∀ q cap xs v W, Fo q kids w0 → xs.length + kids.count ≤ 1000000 → LnAt w0.heap.size P Q xs v W → Below w0.heap.size w0 W → Calls Tryd.prog 27 #[.slice q kids.len cap, .int .i64 ((d : Int) + 1), .pointer (some ⟨P, 0, none⟩), .pointer (some ⟨Q, 0, none⟩)] W (LnSaid w0 P Q (xs ++ lnF kids (d + 1)))) :
    Calls Tryd.prog 27 #[.slice (some ⟨g, o, none⟩) f.len cap, .int .i64 d, .pointer (some ⟨P, 0, none⟩), .pointer (some ⟨Q, 0, none⟩)] w (LnSaid w0 P Q (xs ++ lnF f d)) := by
  obtain ⟨i0, hi0, hi1, hi2, hi3⟩ := info_parts infoStr0
  have HL := hide hl
  have HT := hide (And.intro ht hm)
  have IH := hide ih
  have hlc := f.len_count
  have HI := hide (And.intro hI hb)
  have HPQ := hide (And.intro hP (And.intro hQ hPQ))
  have HSM := hide (fun j => sm_drop' j f hsm)
  have hdi : (d : Int) ≤ 1000000 := by omega
  have HD := hide hd
  have HXS := hide hxs
  clear hl ht hm ih hI hb hP hQ hPQ hsm hd hxs
  go_enter Tryd.func27, Tryd.ntmps27
  go_wp2
  go_loopw [9] (fun i wr => ∃ (j : Nat) (ys : List ByteArray) (v : Value), j ≤ f.len ∧ i = .int .i64 j ∧ ys ++ lnF (f.drop j) d = xs ++ lnF f d ∧ LnAt w0.heap.size P Q ys v wr ∧ Below w0.heap.size w0 wr) (fun i _ => f.len - (intOf i).toNat)
  case atStart => exact ⟨0, xs, v, Nat.zero_le _, rfl, by rw [Forest.drop_zero], (unhide HI).1, (unhide HI).2⟩
  case round =>
    clear HI
    obtain ⟨j, ys, v, hj, rfl, hys, hI, hbw⟩ := hrel
    have hyl : ys.length + (f.drop j).count = xs.length + f.count := by
      have := congrArg List.length hys
      rw [List.length_append, List.length_append, lnF_len, lnF_len] at this
      exact this
    by_cases hp : j < f.len
    · have hpi : (j : Int) < (f.len : Int) := by omega
      have hji : (j : Int) ≤ 1000000 := by have := unhide HD; omega
      obtain ⟨k, sp, n, ats, tx, kids, hdr⟩ := f.drop_cons j hp
      have hl0 := (unhide HL).drop j
      have hs0 := unhide HSM j
      rw [hdr] at hl0 hs0 hyl hys
      have hyl' : ys.length + (1 + kids.count + (f.drop (j + 1)).count) = xs.length + f.count := hyl
      have hyN : ys.length ≤ 1000000 := by have := unhide HXS; omega
      have hl1 := hl0
      obtain ⟨⟨_, _, _, _, _, ⟨qk, ck, l5, _, hfk⟩⟩, _⟩ := hl1
      have CL := hide (fun W (hW : Below w0.heap.size w0 W) => line_any g (o + j * 6) k sp n ats tx kids (f.drop (j + 1)) W ((unhide HT).1.below hW) ((unhide HT).2.below hW) (hl0.below hW) hs0.1.2.2.1 (by have := hs0.1.2.1; omega) (by have := hs0.1.1; omega))
      have CR := hide (fun W => rep_any d W (by omega))
      have CG := hide (fun ys v W h1 h2 h3 => unhide IH j k sp n ats tx kids hdr qk ck ys v W hfk h1 h2 h3)
      have hln := ln_len (k := k) hs0.1.2.2.1 hs0.1.2.1 hs0.1.1
      have hsl := spL_len d
      have HLN : Hid (ys ++ (bs (spL d ++ lnL k n.data.toList ats tx.data.toList) :: (lnF kids (d + 1) ++ lnF (f.drop (j + 1)) d)) = xs ++ lnF f d) := hide hys
      have hbs : bs (spL d) ++ bs (lnL k n.data.toList ats tx.data.toList) = bs (spL d ++ lnL k n.data.toList ats tx.data.toList) := bs_bs _ _
      have z1 : ¬ 9223372036854775807 < (bs (spL d)).size + (bs (lnL k n.data.toList ats tx.data.toList)).size := by rw [bs_size, bs_size, hsl]; omega
      have HBS := hide hbs
      have HKC : Hid (ys.length + 1 + kids.count ≤ 1000000) := hide (by have := unhide HXS; omega)
      have HFL : Hid (g < w0.heap.size) := hide (World.block_lt_of_cell? w0 _ l5)
      clear hln hsl hbs hyl hyl' hys hl0 hs0 hdr hfk
      generalize spL d = sp0 at *
      generalize lnL k n.data.toList ats tx.data.toList = ln0 at *
      generalize bs (sp0 ++ ln0) = L0 at *
      generalize bs sp0 = s1 at *
      generalize bs ln0 = s2 at *
      have l5w := cell_later hbw l5
      have HL5 := hide l5
      have hD : Below wr.heap.size wr wr.drew := below_draws wr 1
      have HID := hide (And.intro (hI.later hD) (hbw.trans (hD.mono hbw.size)))
      clear hI hbw l5 hD l5w
      go_wp2_with fail
      have hSa : True := trivial
      refine wp_region_held (S := fun _ => True) (by kernel_rfl) ?_
      change wpAnyH _ _ _ _ _ _ _ _ (World.drew _)
      refine wpAnyH_take (i := 1) (oi := { dst := some 13, op := _, type := _, pos := _, after := _, guard := _ }) (v := ?va1_1) rfl (by kernel_rfl) (by kernel_rfl) (by kernel_rfl) (fun _ _ _ h => h) (Or.inl ⟨by kernel_rfl, ?ha1_1⟩) hSa ?ra1_1
      case ha1_1 => first | (intro w hSw; obtain _ := hSw; go_simp; done) | (intro w hSw; obtain _ := hSw; go_simp; with_reducible rfl)
      try simp only [Act.put, List.setIfInBounds_toArray, List.set_cons_zero, List.set_cons_succ]
      refine wpAnyH_take (i := 3) (oi := { dst := some 15, op := _, type := _, pos := _, after := _, guard := _ }) (v := ?va3_2) rfl (by kernel_rfl) (by kernel_rfl) (by kernel_rfl) (fun _ _ _ h => h) (Or.inl ⟨by kernel_rfl, ?ha3_2⟩) hSa ?ra3_2
      case ha3_2 => first | (intro w hSw; obtain _ := hSw; go_simp; done) | (intro w hSw; obtain _ := hSw; go_simp; with_reducible rfl)
      try simp only [Act.put, List.setIfInBounds_toArray, List.set_cons_zero, List.set_cons_succ]
      refine wpAnyH_take (i := 4) (oi := { dst := some 16, op := _, type := _, pos := _, after := _, guard := _ }) (v := ?va4_3) rfl (by kernel_rfl) (by kernel_rfl) (by kernel_rfl) (fun _ _ _ h => h) (Or.inl ⟨by kernel_rfl, ?ha4_3⟩) hSa ?ra4_3
      case ha4_3 => first | (intro w hSw; obtain _ := hSw; go_simp; done) | (intro w hSw; obtain _ := hSw; go_simp; with_reducible rfl)
      try simp only [Act.put, List.setIfInBounds_toArray, List.set_cons_zero, List.set_cons_succ]
      refine wpAnyH_take (i := 5) (oi := { dst := some 17, op := _, type := _, pos := _, after := _, guard := _ }) (v := ?va5_4) rfl (by kernel_rfl) (by kernel_rfl) (by kernel_rfl) (fun _ _ _ h => h) (Or.inl ⟨by kernel_rfl, ?ha5_4⟩) hSa ?ra5_4
      case ha5_4 => first | (intro w hSw; obtain _ := hSw; go_simp; done) | (intro w hSw; obtain _ := hSw; go_simp; with_reducible rfl)
      try simp only [Act.put, List.setIfInBounds_toArray, List.set_cons_zero, List.set_cons_succ]
      refine wpAnyH_ready (rs := [0, 2]) (by kernel_rfl) (by simp) ?_
      refine AllReadyH.cons rfl (fun K hK => ?_) (AllReadyH.cons rfl (fun K hK => ?_) AllReadyH.nil)
      · have x0 := (unhide HID).1.blk.cell 0
        go_simp
        have hSa' : True := trivial
        clear x0
        refine hK _ _ hSa' (fun _ => ?_)
        clear hK K hSa
        have hSa := hSa'
        clear hSa'
        refine wpAnyH_ready (rs := [2]) (by kernel_rfl) (by simp) ?_
        refine AllReadyH.cons rfl (fun K hK => ?_) AllReadyH.nil
        go_simp
        refine (unhide CR _).mono ?_
        rintro e w1 ⟨rfl, hb1⟩
        have H1 := hide (And.intro ((unhide HID).1.later hb1) ((unhide HID).2.trans (hb1.mono (unhide HID).2.size)))
        have hSa' : True := trivial
        clear hb1 CR
        refine hK _ _ hSa' (fun _ => ?_)
        clear hK K hSa
        have hSa := hSa'
        clear hSa'
        refine wpAnyH_ready (rs := [6]) (by kernel_rfl) (by simp) ?_
        refine AllReadyH.cons rfl (fun K hK => ?_) AllReadyH.nil
        go_simp
        refine (unhide CL _ (unhide H1).2).mono ?_
        rintro e w2 ⟨rfl, hb2⟩
        have H2 := hide (And.intro ((unhide H1).1.later hb2) ((unhide H1).2.trans (hb2.mono (unhide H1).2.size)))
        have hSa' : True := trivial
        clear hb2 CL
        refine hK _ _ hSa' (fun _ => ?_)
        clear hK K hSa
        have hSa := hSa'
        clear hSa'
        refine wpAnyH_take (i := 7) (oi := { dst := some 19, op := _, type := _, pos := _, after := _, guard := _ }) (v := ?va7_5) rfl (by kernel_rfl) (by kernel_rfl) (by kernel_rfl) (fun _ _ _ h => h) (Or.inl ⟨by kernel_rfl, ?ha7_5⟩) hSa ?ra7_5
        case ha7_5 => first | (intro w hSw; obtain _ := hSw; go_simp; done) | (intro w hSw; obtain _ := hSw; go_simp; with_reducible rfl)
        try simp only [Act.put, List.setIfInBounds_toArray, List.set_cons_zero, List.set_cons_succ]
        refine wpAnyH_ready (rs := [8]) (by kernel_rfl) (by simp) ?_
        refine AllReadyH.cons rfl (fun K hK => ?_) AllReadyH.nil
        go_simp
        have hA3 := (Below.refl w2.heap.size w2).alloc (Nat.le_refl _) (Obj.cells #[.string (s1 ++ s2)] 9)
        have H3 := hide (And.intro ((unhide H2).1.later hA3) ((unhide H2).2.trans (hA3.mono (unhide H2).2.size)))
        have hSa' : True := trivial
        clear hA3
        refine hK _ _ hSa' (fun _ => ?_)
        clear hK K hSa
        have hSa := hSa'
        clear hSa'
        refine wpAnyH_ready (rs := [9]) (by kernel_rfl) (by simp) ?_
        refine AllReadyH.cons rfl (fun K hK => ?_) AllReadyH.nil
        obtain ⟨w4, v4, hr, hown, hgr⟩ : ∃ w4 v4, (Builtin.append_ #[26, 26] 26 #[v, .slice (some ⟨w2.heap.size, 0, none⟩) 1 1]).run Tryd.prog (w2.alloc (Obj.cells #[.string (s1 ++ s2)] 9)) = .ok v4 w4 ∧ w4.ownsRow w0.heap.size 9 1 v4 (ys.length + 1) (ys.map Value.string ++ [.string (s1 ++ s2)]) ∧ (w2.alloc (Obj.cells #[.string (s1 ++ s2)] 9)).grownBy w4 v.ownBlock := by
          obtain ⟨v4, w4, h1, h2, h3, _⟩ := run_append_own (P := Tryd.prog) (w2.alloc (Obj.cells #[.string (s1 ++ s2)] 9)) w0.heap.size 26 26 9 i0 (.string ⟨#[]⟩) 1 16 Tryd.underlying26 hi0 hi1 hi2 hi3 rfl (by decide) v ys.length (ys.map Value.string) (unhide H3).1.row ⟨w2.heap.size, 0, none⟩ 1 1 [.string (s1 ++ s2)] rfl (fun j u hj => lit1 hj) (fun u hu => by simp at hu; rw [hu]; rfl) (by unfold maxLen; omega) (by omega) (by have := (unhide H3).2.size; exact this)
          exact ⟨w4, v4, h1, h2, h3⟩
        obtain ⟨a5, n5, c5, hv⟩ : ∃ a5 n5 c5, v = .slice a5 n5 c5 := by obtain ⟨a5, c5, h⟩ := slice_n (unhide H3).1.row; exact ⟨a5, _, c5, h⟩
        refine step_append_run (o := { dst := some 21, op := _, type := _, pos := _, after := _, guard := _ }) rfl (.tmp 12) (.tmp 20) 26 26 rfl v (.slice (some ⟨w2.heap.size, 0, none⟩) 1 1) (by simp [Act.eval, Act.put]) (by simp [Act.eval, Act.put]) hr ?_
        simp only [Act.put, List.setIfInBounds_toArray, List.set_cons_zero, List.set_cons_succ]
        have hne : ∀ b, v.ownBlock = some b → b ≠ P ∧ b ≠ Q ∧ w0.heap.size ≤ b := fun b hb => row_apart (unhide H3).1 hb
        have hb4 := (unhide H3).2.grown hgr (unhide H3).2.size (fun k hk => (hne k hk).2.2)
        have kP : Blk w4 P #[v] 26 := (hgr.block P (unhide H3).1.blk.lt (fun e => (hne P e.symm).1 rfl)).trans (unhide H3).1.blk
        have kQ : Blk w4 Q #[(.func (.func 27) #[] #[.pointer (some ⟨P, 0, none⟩), .pointer (some ⟨Q, 0, none⟩)])] 61 := (hgr.block Q (unhide H3).1.fn.lt (fun e => (hne Q e.symm).2.1 rfl)).trans (unhide H3).1.fn
        have H4 := hide (And.intro hown (And.intro kP (And.intro kQ hb4)))
        obtain ⟨a4, c4, hv4⟩ := slice_n hown
        subst hv4
        have hSa' : True := trivial
        clear hr hown hgr hne hb4 kP kQ
        refine hK _ _ hSa' (fun _ => ?_)
        clear hK K hSa
        have hSa := hSa'
        clear hSa'
        refine wpAnyH_ready (rs := [10]) (by kernel_rfl) (by simp) ?_
        refine AllReadyH.cons rfl (fun K hK => ?_) AllReadyH.nil
        have x0 := (unhide H4).2.1.cell 0
        have f0 := (unhide H4).2.1.frozen 0
        go_simp
        have hSa' : True := trivial
        clear x0 f0
        refine hK _ _ hSa' (fun _ => ?_)
        clear hK K hSa
        have hSa := hSa'
        clear hSa'
        refine wpAnyH_done (by kernel_rfl) ?_ _
        clear hSa
        try simp only [Act.put, List.setIfInBounds_toArray, List.set_cons_zero, List.set_cons_succ]
        have hI5 : LnAt w0.heap.size P Q (ys ++ [L0]) (.slice a4 (ys.length + 1) c4) (w4.setCell ⟨P, 0, none⟩ (.slice a4 (ys.length + 1) c4)) := by
          rw [unhide HBS] at H4
          exact lnat_store (unhide H4).2.1 (unhide H4).1 (unhide H4).2.2.1 (unhide HPQ).2.2
        have hb5 := (unhide H4).2.2.2.setCell (p := ⟨P, 0, none⟩) (unhide HPQ).1 (.slice a4 (ys.length + 1) c4)
        generalize w4.setCell ⟨P, 0, none⟩ (.slice a4 (ys.length + 1) c4) = w5 at *
        have hD5 : Below w5.heap.size w5 w5.drew := below_draws w5 1
        have H5 := hide (And.intro (hI5.later hD5) (hb5.trans (hD5.mono hb5.size)))
        have HS5 : Hid (KeepG Q (.func (.func 27) #[] #[.pointer (some ⟨P, 0, none⟩), .pointer (some ⟨Q, 0, none⟩)]) g (o + j * 6 + 5) (.slice qk kids.len ck) w5.drew) := hide ⟨(unhide H5).1.fn.cell 0, cell_later (unhide H5).2 (unhide HL5)⟩
        clear hI5 hb5 hD5 z1
        have hwd : IntKind.i64.wrap ((d : Int) + 1) = (d : Int) + 1 := by simp [IntKind.wrap, IntKind.bits, IntKind.signed]; omega
        go_wp2_with fail
        have hSa := unhide HS5
        refine wp_region_held (S := KeepG Q (.func (.func 27) #[] #[.pointer (some ⟨P, 0, none⟩), .pointer (some ⟨Q, 0, none⟩)]) g (o + j * 6 + 5) (.slice qk kids.len ck)) (by kernel_rfl) ?_
        change wpAnyH _ _ _ _ _ _ _ _ (World.drew _)
        refine wpAnyH_take (i := 0) (oi := { dst := some 22, op := _, type := _, pos := _, after := _, guard := _ }) (v := ?vb0_6) rfl (by kernel_rfl) (by kernel_rfl) (by kernel_rfl) (fun _ _ _ h => h) (Or.inl ⟨by kernel_rfl, ?hb0_6⟩) hSa ?rb0_6
        case hb0_6 => first | (intro w hSw; obtain ⟨s0, s5⟩ := hSw; go_simp; done) | (intro w hSw; obtain ⟨s0, s5⟩ := hSw; go_simp; with_reducible rfl)
        try simp only [Act.put, List.setIfInBounds_toArray, List.set_cons_zero, List.set_cons_succ]
        refine wpAnyH_take (i := 1) (oi := { dst := some 23, op := _, type := _, pos := _, after := _, guard := _ }) (v := ?vb1_7) rfl (by kernel_rfl) (by kernel_rfl) (by kernel_rfl) (fun _ _ _ h => h) (Or.inl ⟨by kernel_rfl, ?hb1_7⟩) hSa ?rb1_7
        case hb1_7 => first | (intro w hSw; obtain ⟨s0, s5⟩ := hSw; go_simp; done) | (intro w hSw; obtain ⟨s0, s5⟩ := hSw; go_simp; with_reducible rfl)
        try simp only [Act.put, List.setIfInBounds_toArray, List.set_cons_zero, List.set_cons_succ]
        refine wpAnyH_take (i := 2) (oi := { dst := some 24, op := _, type := _, pos := _, after := _, guard := _ }) (v := ?vb2_8) rfl (by kernel_rfl) (by kernel_rfl) (by kernel_rfl) (fun _ _ _ h => h) (Or.inl ⟨by kernel_rfl, ?hb2_8⟩) hSa ?rb2_8
        case hb2_8 => first | (intro w hSw; obtain ⟨s0, s5⟩ := hSw; go_simp; done) | (intro w hSw; obtain ⟨s0, s5⟩ := hSw; go_simp; with_reducible rfl)
        try simp only [Act.put, List.setIfInBounds_toArray, List.set_cons_zero, List.set_cons_succ]
        refine wpAnyH_take (i := 3) (oi := { dst := some 25, op := _, type := _, pos := _, after := _, guard := _ }) (v := ?vb3_9) rfl (by kernel_rfl) (by kernel_rfl) (by kernel_rfl) (fun _ _ _ h => h) (Or.inl ⟨by kernel_rfl, ?hb3_9⟩) hSa ?rb3_9
        case hb3_9 => first | (intro w hSw; obtain ⟨s0, s5⟩ := hSw; go_simp; done) | (intro w hSw; obtain ⟨s0, s5⟩ := hSw; go_simp; with_reducible rfl)
        try simp only [Act.put, List.setIfInBounds_toArray, List.set_cons_zero, List.set_cons_succ]
        refine wpAnyH_take (i := 4) (oi := { dst := some 26, op := _, type := _, pos := _, after := _, guard := _ }) (v := ?vb4_10) rfl (by kernel_rfl) (by kernel_rfl) (by kernel_rfl) (fun _ _ _ h => h) (Or.inl ⟨by kernel_rfl, ?hb4_10⟩) hSa ?rb4_10
        case hb4_10 => first | (intro w hSw; obtain ⟨s0, s5⟩ := hSw; go_simp; done) | (intro w hSw; obtain ⟨s0, s5⟩ := hSw; go_simp; with_reducible rfl)
        try simp only [Act.put, List.setIfInBounds_toArray, List.set_cons_zero, List.set_cons_succ]
        refine wpAnyH_take (i := 5) (oi := { dst := some 27, op := _, type := _, pos := _, after := _, guard := _ }) (v := ?vb5_11) rfl (by kernel_rfl) (by kernel_rfl) (by kernel_rfl) (fun _ _ _ h => h) (Or.inl ⟨by kernel_rfl, ?hb5_11⟩) hSa ?rb5_11
        case hb5_11 => first | (intro w hSw; obtain ⟨s0, s5⟩ := hSw; go_simp; done) | (intro w hSw; obtain ⟨s0, s5⟩ := hSw; go_simp; with_reducible rfl)
        try simp only [Act.put, List.setIfInBounds_toArray, List.set_cons_zero, List.set_cons_succ]
        refine wpAnyH_take (i := 6) (oi := { dst := some 28, op := _, type := _, pos := _, after := _, guard := _ }) (v := ?vb6_12) rfl (by kernel_rfl) (by kernel_rfl) (by kernel_rfl) (fun _ _ _ h => h) (Or.inl ⟨by kernel_rfl, ?hb6_12⟩) hSa ?rb6_12
        case hb6_12 => first | (intro w hSw; obtain ⟨s0, s5⟩ := hSw; go_simp; done) | (intro w hSw; obtain ⟨s0, s5⟩ := hSw; go_simp; with_reducible rfl)
        try simp only [Act.put, List.setIfInBounds_toArray, List.set_cons_zero, List.set_cons_succ]
        refine wpAnyH_take (i := 7) (oi := { dst := some 29, op := _, type := _, pos := _, after := _, guard := _ }) (v := ?vb7_13) rfl (by kernel_rfl) (by kernel_rfl) (by kernel_rfl) (fun _ _ _ h => h) (Or.inl ⟨by kernel_rfl, ?hb7_13⟩) hSa ?rb7_13
        case hb7_13 => first | (intro w hSw; obtain ⟨s0, s5⟩ := hSw; go_simp; done) | (intro w hSw; obtain ⟨s0, s5⟩ := hSw; go_simp; with_reducible rfl)
        try simp only [Act.put, List.setIfInBounds_toArray, List.set_cons_zero, List.set_cons_succ]
        refine wpAnyH_ready (rs := [8]) (by kernel_rfl) (by simp) ?_
        refine AllReadyH.cons rfl (fun K hK => ?_) AllReadyH.nil
        go_simp
        refine (unhide CG (ys ++ [L0]) (.slice a4 (ys.length + 1) c4) w5.drew (by rw [List.length_append]; exact unhide HKC) (unhide H5).1 (unhide H5).2).mono ?_
        rintro e w6 ⟨rfl, ⟨v6, hI6⟩, hb6⟩
        have H6 := hide (And.intro hI6 hb6)
        have hSa' : KeepG Q (.func (.func 27) #[] #[.pointer (some ⟨P, 0, none⟩), .pointer (some ⟨Q, 0, none⟩)]) g (o + j * 6 + 5) (.slice qk kids.len ck) w6 := ⟨hI6.fn.cell 0, cell_later hb6 (unhide HL5)⟩
        clear hI6 hb6 CG
        refine hK _ _ hSa' (fun _ => ?_)
        clear hK K hSa
        have hSa := hSa'
        clear hSa'
        refine wpAnyH_done (by kernel_rfl) ?_ _
        clear hSa hwd
        go_wp2
        go_roundw
        case rel => exact ⟨j + 1, ys ++ [L0] ++ lnF kids (d + 1), v6, by omega, by go_num, by rw [← unhide HLN]; simp [List.append_assoc], (unhide H6).1, (unhide H6).2⟩
        case measure => simp [intOf]; omega
      · go_simp
        refine (unhide CR _).mono ?_
        rintro e w1 ⟨rfl, hb1⟩
        have H1 := hide (And.intro ((unhide HID).1.later hb1) ((unhide HID).2.trans (hb1.mono (unhide HID).2.size)))
        have hSa' : True := trivial
        clear hb1 CR
        refine hK _ _ hSa' (fun _ => ?_)
        clear hK K hSa
        have hSa := hSa'
        clear hSa'
        refine wpAnyH_ready (rs := [0, 6]) (by kernel_rfl) (by simp) ?_
        refine AllReadyH.cons rfl (fun K hK => ?_) (AllReadyH.cons rfl (fun K hK => ?_) AllReadyH.nil)
        · have x0 := (unhide H1).1.blk.cell 0
          go_simp
          have hSa' : True := trivial
          clear x0
          refine hK _ _ hSa' (fun _ => ?_)
          clear hK K hSa
          have hSa := hSa'
          clear hSa'
          refine wpAnyH_ready (rs := [6]) (by kernel_rfl) (by simp) ?_
          refine AllReadyH.cons rfl (fun K hK => ?_) AllReadyH.nil
          go_simp
          refine (unhide CL _ (unhide H1).2).mono ?_
          rintro e w2 ⟨rfl, hb2⟩
          have H2 := hide (And.intro ((unhide H1).1.later hb2) ((unhide H1).2.trans (hb2.mono (unhide H1).2.size)))
          have hSa' : True := trivial
          clear hb2 CL
          refine hK _ _ hSa' (fun _ => ?_)
          clear hK K hSa
          have hSa := hSa'
          clear hSa'
          refine wpAnyH_take (i := 7) (oi := { dst := some 19, op := _, type := _, pos := _, after := _, guard := _ }) (v := ?va7_14) rfl (by kernel_rfl) (by kernel_rfl) (by kernel_rfl) (fun _ _ _ h => h) (Or.inl ⟨by kernel_rfl, ?ha7_14⟩) hSa ?ra7_14
          case ha7_14 => first | (intro w hSw; obtain _ := hSw; go_simp; done) | (intro w hSw; obtain _ := hSw; go_simp; with_reducible rfl)
          try simp only [Act.put, List.setIfInBounds_toArray, List.set_cons_zero, List.set_cons_succ]
          refine wpAnyH_ready (rs := [8]) (by kernel_rfl) (by simp) ?_
          refine AllReadyH.cons rfl (fun K hK => ?_) AllReadyH.nil
          go_simp
          have hA3 := (Below.refl w2.heap.size w2).alloc (Nat.le_refl _) (Obj.cells #[.string (s1 ++ s2)] 9)
          have H3 := hide (And.intro ((unhide H2).1.later hA3) ((unhide H2).2.trans (hA3.mono (unhide H2).2.size)))
          have hSa' : True := trivial
          clear hA3
          refine hK _ _ hSa' (fun _ => ?_)
          clear hK K hSa
          have hSa := hSa'
          clear hSa'
          refine wpAnyH_ready (rs := [9]) (by kernel_rfl) (by simp) ?_
          refine AllReadyH.cons rfl (fun K hK => ?_) AllReadyH.nil
          obtain ⟨w4, v4, hr, hown, hgr⟩ : ∃ w4 v4, (Builtin.append_ #[26, 26] 26 #[v, .slice (some ⟨w2.heap.size, 0, none⟩) 1 1]).run Tryd.prog (w2.alloc (Obj.cells #[.string (s1 ++ s2)] 9)) = .ok v4 w4 ∧ w4.ownsRow w0.heap.size 9 1 v4 (ys.length + 1) (ys.map Value.string ++ [.string (s1 ++ s2)]) ∧ (w2.alloc (Obj.cells #[.string (s1 ++ s2)] 9)).grownBy w4 v.ownBlock := by
            obtain ⟨v4, w4, h1, h2, h3, _⟩ := run_append_own (P := Tryd.prog) (w2.alloc (Obj.cells #[.string (s1 ++ s2)] 9)) w0.heap.size 26 26 9 i0 (.string ⟨#[]⟩) 1 16 Tryd.underlying26 hi0 hi1 hi2 hi3 rfl (by decide) v ys.length (ys.map Value.string) (unhide H3).1.row ⟨w2.heap.size, 0, none⟩ 1 1 [.string (s1 ++ s2)] rfl (fun j u hj => lit1 hj) (fun u hu => by simp at hu; rw [hu]; rfl) (by unfold maxLen; omega) (by omega) (by have := (unhide H3).2.size; exact this)
            exact ⟨w4, v4, h1, h2, h3⟩
          obtain ⟨a5, n5, c5, hv⟩ : ∃ a5 n5 c5, v = .slice a5 n5 c5 := by obtain ⟨a5, c5, h⟩ := slice_n (unhide H3).1.row; exact ⟨a5, _, c5, h⟩
          refine step_append_run (o := { dst := some 21, op := _, type := _, pos := _, after := _, guard := _ }) rfl (.tmp 12) (.tmp 20) 26 26 rfl v (.slice (some ⟨w2.heap.size, 0, none⟩) 1 1) (by simp [Act.eval, Act.put]) (by simp [Act.eval, Act.put]) hr ?_
          simp only [Act.put, List.setIfInBounds_toArray, List.set_cons_zero, List.set_cons_succ]
          have hne : ∀ b, v.ownBlock = some b → b ≠ P ∧ b ≠ Q ∧ w0.heap.size ≤ b := fun b hb => row_apart (unhide H3).1 hb
          have hb4 := (unhide H3).2.grown hgr (unhide H3).2.size (fun k hk => (hne k hk).2.2)
          have kP : Blk w4 P #[v] 26 := (hgr.block P (unhide H3).1.blk.lt (fun e => (hne P e.symm).1 rfl)).trans (unhide H3).1.blk
          have kQ : Blk w4 Q #[(.func (.func 27) #[] #[.pointer (some ⟨P, 0, none⟩), .pointer (some ⟨Q, 0, none⟩)])] 61 := (hgr.block Q (unhide H3).1.fn.lt (fun e => (hne Q e.symm).2.1 rfl)).trans (unhide H3).1.fn
          have H4 := hide (And.intro hown (And.intro kP (And.intro kQ hb4)))
          obtain ⟨a4, c4, hv4⟩ := slice_n hown
          subst hv4
          have hSa' : True := trivial
          clear hr hown hgr hne hb4 kP kQ
          refine hK _ _ hSa' (fun _ => ?_)
          clear hK K hSa
          have hSa := hSa'
          clear hSa'
          refine wpAnyH_ready (rs := [10]) (by kernel_rfl) (by simp) ?_
          refine AllReadyH.cons rfl (fun K hK => ?_) AllReadyH.nil
          have x0 := (unhide H4).2.1.cell 0
          have f0 := (unhide H4).2.1.frozen 0
          go_simp
          have hSa' : True := trivial
          clear x0 f0
          refine hK _ _ hSa' (fun _ => ?_)
          clear hK K hSa
          have hSa := hSa'
          clear hSa'
          refine wpAnyH_done (by kernel_rfl) ?_ _
          clear hSa
          try simp only [Act.put, List.setIfInBounds_toArray, List.set_cons_zero, List.set_cons_succ]
          have hI5 : LnAt w0.heap.size P Q (ys ++ [L0]) (.slice a4 (ys.length + 1) c4) (w4.setCell ⟨P, 0, none⟩ (.slice a4 (ys.length + 1) c4)) := by
            rw [unhide HBS] at H4
            exact lnat_store (unhide H4).2.1 (unhide H4).1 (unhide H4).2.2.1 (unhide HPQ).2.2
          have hb5 := (unhide H4).2.2.2.setCell (p := ⟨P, 0, none⟩) (unhide HPQ).1 (.slice a4 (ys.length + 1) c4)
          generalize w4.setCell ⟨P, 0, none⟩ (.slice a4 (ys.length + 1) c4) = w5 at *
          have hD5 : Below w5.heap.size w5 w5.drew := below_draws w5 1
          have H5 := hide (And.intro (hI5.later hD5) (hb5.trans (hD5.mono hb5.size)))
          have HS5 : Hid (KeepG Q (.func (.func 27) #[] #[.pointer (some ⟨P, 0, none⟩), .pointer (some ⟨Q, 0, none⟩)]) g (o + j * 6 + 5) (.slice qk kids.len ck) w5.drew) := hide ⟨(unhide H5).1.fn.cell 0, cell_later (unhide H5).2 (unhide HL5)⟩
          clear hI5 hb5 hD5 z1
          have hwd : IntKind.i64.wrap ((d : Int) + 1) = (d : Int) + 1 := by simp [IntKind.wrap, IntKind.bits, IntKind.signed]; omega
          go_wp2_with fail
          have hSa := unhide HS5
          refine wp_region_held (S := KeepG Q (.func (.func 27) #[] #[.pointer (some ⟨P, 0, none⟩), .pointer (some ⟨Q, 0, none⟩)]) g (o + j * 6 + 5) (.slice qk kids.len ck)) (by kernel_rfl) ?_
          change wpAnyH _ _ _ _ _ _ _ _ (World.drew _)
          refine wpAnyH_take (i := 0) (oi := { dst := some 22, op := _, type := _, pos := _, after := _, guard := _ }) (v := ?vb0_15) rfl (by kernel_rfl) (by kernel_rfl) (by kernel_rfl) (fun _ _ _ h => h) (Or.inl ⟨by kernel_rfl, ?hb0_15⟩) hSa ?rb0_15
          case hb0_15 => first | (intro w hSw; obtain ⟨s0, s5⟩ := hSw; go_simp; done) | (intro w hSw; obtain ⟨s0, s5⟩ := hSw; go_simp; with_reducible rfl)
          try simp only [Act.put, List.setIfInBounds_toArray, List.set_cons_zero, List.set_cons_succ]
          refine wpAnyH_take (i := 1) (oi := { dst := some 23, op := _, type := _, pos := _, after := _, guard := _ }) (v := ?vb1_16) rfl (by kernel_rfl) (by kernel_rfl) (by kernel_rfl) (fun _ _ _ h => h) (Or.inl ⟨by kernel_rfl, ?hb1_16⟩) hSa ?rb1_16
          case hb1_16 => first | (intro w hSw; obtain ⟨s0, s5⟩ := hSw; go_simp; done) | (intro w hSw; obtain ⟨s0, s5⟩ := hSw; go_simp; with_reducible rfl)
          try simp only [Act.put, List.setIfInBounds_toArray, List.set_cons_zero, List.set_cons_succ]
          refine wpAnyH_take (i := 2) (oi := { dst := some 24, op := _, type := _, pos := _, after := _, guard := _ }) (v := ?vb2_17) rfl (by kernel_rfl) (by kernel_rfl) (by kernel_rfl) (fun _ _ _ h => h) (Or.inl ⟨by kernel_rfl, ?hb2_17⟩) hSa ?rb2_17
          case hb2_17 => first | (intro w hSw; obtain ⟨s0, s5⟩ := hSw; go_simp; done) | (intro w hSw; obtain ⟨s0, s5⟩ := hSw; go_simp; with_reducible rfl)
          try simp only [Act.put, List.setIfInBounds_toArray, List.set_cons_zero, List.set_cons_succ]
          refine wpAnyH_take (i := 3) (oi := { dst := some 25, op := _, type := _, pos := _, after := _, guard := _ }) (v := ?vb3_18) rfl (by kernel_rfl) (by kernel_rfl) (by kernel_rfl) (fun _ _ _ h => h) (Or.inl ⟨by kernel_rfl, ?hb3_18⟩) hSa ?rb3_18
          case hb3_18 => first | (intro w hSw; obtain ⟨s0, s5⟩ := hSw; go_simp; done) | (intro w hSw; obtain ⟨s0, s5⟩ := hSw; go_simp; with_reducible rfl)
          try simp only [Act.put, List.setIfInBounds_toArray, List.set_cons_zero, List.set_cons_succ]
          refine wpAnyH_take (i := 4) (oi := { dst := some 26, op := _, type := _, pos := _, after := _, guard := _ }) (v := ?vb4_19) rfl (by kernel_rfl) (by kernel_rfl) (by kernel_rfl) (fun _ _ _ h => h) (Or.inl ⟨by kernel_rfl, ?hb4_19⟩) hSa ?rb4_19
          case hb4_19 => first | (intro w hSw; obtain ⟨s0, s5⟩ := hSw; go_simp; done) | (intro w hSw; obtain ⟨s0, s5⟩ := hSw; go_simp; with_reducible rfl)
          try simp only [Act.put, List.setIfInBounds_toArray, List.set_cons_zero, List.set_cons_succ]
          refine wpAnyH_take (i := 5) (oi := { dst := some 27, op := _, type := _, pos := _, after := _, guard := _ }) (v := ?vb5_20) rfl (by kernel_rfl) (by kernel_rfl) (by kernel_rfl) (fun _ _ _ h => h) (Or.inl ⟨by kernel_rfl, ?hb5_20⟩) hSa ?rb5_20
          case hb5_20 => first | (intro w hSw; obtain ⟨s0, s5⟩ := hSw; go_simp; done) | (intro w hSw; obtain ⟨s0, s5⟩ := hSw; go_simp; with_reducible rfl)
          try simp only [Act.put, List.setIfInBounds_toArray, List.set_cons_zero, List.set_cons_succ]
          refine wpAnyH_take (i := 6) (oi := { dst := some 28, op := _, type := _, pos := _, after := _, guard := _ }) (v := ?vb6_21) rfl (by kernel_rfl) (by kernel_rfl) (by kernel_rfl) (fun _ _ _ h => h) (Or.inl ⟨by kernel_rfl, ?hb6_21⟩) hSa ?rb6_21
          case hb6_21 => first | (intro w hSw; obtain ⟨s0, s5⟩ := hSw; go_simp; done) | (intro w hSw; obtain ⟨s0, s5⟩ := hSw; go_simp; with_reducible rfl)
          try simp only [Act.put, List.setIfInBounds_toArray, List.set_cons_zero, List.set_cons_succ]
          refine wpAnyH_take (i := 7) (oi := { dst := some 29, op := _, type := _, pos := _, after := _, guard := _ }) (v := ?vb7_22) rfl (by kernel_rfl) (by kernel_rfl) (by kernel_rfl) (fun _ _ _ h => h) (Or.inl ⟨by kernel_rfl, ?hb7_22⟩) hSa ?rb7_22
          case hb7_22 => first | (intro w hSw; obtain ⟨s0, s5⟩ := hSw; go_simp; done) | (intro w hSw; obtain ⟨s0, s5⟩ := hSw; go_simp; with_reducible rfl)
          try simp only [Act.put, List.setIfInBounds_toArray, List.set_cons_zero, List.set_cons_succ]
          refine wpAnyH_ready (rs := [8]) (by kernel_rfl) (by simp) ?_
          refine AllReadyH.cons rfl (fun K hK => ?_) AllReadyH.nil
          go_simp
          refine (unhide CG (ys ++ [L0]) (.slice a4 (ys.length + 1) c4) w5.drew (by rw [List.length_append]; exact unhide HKC) (unhide H5).1 (unhide H5).2).mono ?_
          rintro e w6 ⟨rfl, ⟨v6, hI6⟩, hb6⟩
          have H6 := hide (And.intro hI6 hb6)
          have hSa' : KeepG Q (.func (.func 27) #[] #[.pointer (some ⟨P, 0, none⟩), .pointer (some ⟨Q, 0, none⟩)]) g (o + j * 6 + 5) (.slice qk kids.len ck) w6 := ⟨hI6.fn.cell 0, cell_later hb6 (unhide HL5)⟩
          clear hI6 hb6 CG
          refine hK _ _ hSa' (fun _ => ?_)
          clear hK K hSa
          have hSa := hSa'
          clear hSa'
          refine wpAnyH_done (by kernel_rfl) ?_ _
          clear hSa hwd
          go_wp2
          go_roundw
          case rel => exact ⟨j + 1, ys ++ [L0] ++ lnF kids (d + 1), v6, by omega, by go_num, by rw [← unhide HLN]; simp [List.append_assoc], (unhide H6).1, (unhide H6).2⟩
          case measure => simp [intOf]; omega
        · go_simp
          refine (unhide CL _ (unhide H1).2).mono ?_
          rintro e w2 ⟨rfl, hb2⟩
          have H2 := hide (And.intro ((unhide H1).1.later hb2) ((unhide H1).2.trans (hb2.mono (unhide H1).2.size)))
          have hSa' : True := trivial
          clear hb2 CL
          refine hK _ _ hSa' (fun _ => ?_)
          clear hK K hSa
          have hSa := hSa'
          clear hSa'
          refine wpAnyH_take (i := 7) (oi := { dst := some 19, op := _, type := _, pos := _, after := _, guard := _ }) (v := ?va7_23) rfl (by kernel_rfl) (by kernel_rfl) (by kernel_rfl) (fun _ _ _ h => h) (Or.inl ⟨by kernel_rfl, ?ha7_23⟩) hSa ?ra7_23
          case ha7_23 => first | (intro w hSw; obtain _ := hSw; go_simp; done) | (intro w hSw; obtain _ := hSw; go_simp; with_reducible rfl)
          try simp only [Act.put, List.setIfInBounds_toArray, List.set_cons_zero, List.set_cons_succ]
          refine wpAnyH_ready (rs := [0, 8]) (by kernel_rfl) (by simp) ?_
          refine AllReadyH.cons rfl (fun K hK => ?_) (AllReadyH.cons rfl (fun K hK => ?_) AllReadyH.nil)
          · have x0 := (unhide H2).1.blk.cell 0
            go_simp
            have hSa' : True := trivial
            clear x0
            refine hK _ _ hSa' (fun _ => ?_)
            clear hK K hSa
            have hSa := hSa'
            clear hSa'
            refine wpAnyH_ready (rs := [8]) (by kernel_rfl) (by simp) ?_
            refine AllReadyH.cons rfl (fun K hK => ?_) AllReadyH.nil
            go_simp
            have hA3 := (Below.refl w2.heap.size w2).alloc (Nat.le_refl _) (Obj.cells #[.string (s1 ++ s2)] 9)
            have H3 := hide (And.intro ((unhide H2).1.later hA3) ((unhide H2).2.trans (hA3.mono (unhide H2).2.size)))
            have hSa' : True := trivial
            clear hA3
            refine hK _ _ hSa' (fun _ => ?_)
            clear hK K hSa
            have hSa := hSa'
            clear hSa'
            refine wpAnyH_ready (rs := [9]) (by kernel_rfl) (by simp) ?_
            refine AllReadyH.cons rfl (fun K hK => ?_) AllReadyH.nil
            obtain ⟨w4, v4, hr, hown, hgr⟩ : ∃ w4 v4, (Builtin.append_ #[26, 26] 26 #[v, .slice (some ⟨w2.heap.size, 0, none⟩) 1 1]).run Tryd.prog (w2.alloc (Obj.cells #[.string (s1 ++ s2)] 9)) = .ok v4 w4 ∧ w4.ownsRow w0.heap.size 9 1 v4 (ys.length + 1) (ys.map Value.string ++ [.string (s1 ++ s2)]) ∧ (w2.alloc (Obj.cells #[.string (s1 ++ s2)] 9)).grownBy w4 v.ownBlock := by
              obtain ⟨v4, w4, h1, h2, h3, _⟩ := run_append_own (P := Tryd.prog) (w2.alloc (Obj.cells #[.string (s1 ++ s2)] 9)) w0.heap.size 26 26 9 i0 (.string ⟨#[]⟩) 1 16 Tryd.underlying26 hi0 hi1 hi2 hi3 rfl (by decide) v ys.length (ys.map Value.string) (unhide H3).1.row ⟨w2.heap.size, 0, none⟩ 1 1 [.string (s1 ++ s2)] rfl (fun j u hj => lit1 hj) (fun u hu => by simp at hu; rw [hu]; rfl) (by unfold maxLen; omega) (by omega) (by have := (unhide H3).2.size; exact this)
              exact ⟨w4, v4, h1, h2, h3⟩
            obtain ⟨a5, n5, c5, hv⟩ : ∃ a5 n5 c5, v = .slice a5 n5 c5 := by obtain ⟨a5, c5, h⟩ := slice_n (unhide H3).1.row; exact ⟨a5, _, c5, h⟩
            refine step_append_run (o := { dst := some 21, op := _, type := _, pos := _, after := _, guard := _ }) rfl (.tmp 12) (.tmp 20) 26 26 rfl v (.slice (some ⟨w2.heap.size, 0, none⟩) 1 1) (by simp [Act.eval, Act.put]) (by simp [Act.eval, Act.put]) hr ?_
            simp only [Act.put, List.setIfInBounds_toArray, List.set_cons_zero, List.set_cons_succ]
            have hne : ∀ b, v.ownBlock = some b → b ≠ P ∧ b ≠ Q ∧ w0.heap.size ≤ b := fun b hb => row_apart (unhide H3).1 hb
            have hb4 := (unhide H3).2.grown hgr (unhide H3).2.size (fun k hk => (hne k hk).2.2)
            have kP : Blk w4 P #[v] 26 := (hgr.block P (unhide H3).1.blk.lt (fun e => (hne P e.symm).1 rfl)).trans (unhide H3).1.blk
            have kQ : Blk w4 Q #[(.func (.func 27) #[] #[.pointer (some ⟨P, 0, none⟩), .pointer (some ⟨Q, 0, none⟩)])] 61 := (hgr.block Q (unhide H3).1.fn.lt (fun e => (hne Q e.symm).2.1 rfl)).trans (unhide H3).1.fn
            have H4 := hide (And.intro hown (And.intro kP (And.intro kQ hb4)))
            obtain ⟨a4, c4, hv4⟩ := slice_n hown
            subst hv4
            have hSa' : True := trivial
            clear hr hown hgr hne hb4 kP kQ
            refine hK _ _ hSa' (fun _ => ?_)
            clear hK K hSa
            have hSa := hSa'
            clear hSa'
            refine wpAnyH_ready (rs := [10]) (by kernel_rfl) (by simp) ?_
            refine AllReadyH.cons rfl (fun K hK => ?_) AllReadyH.nil
            have x0 := (unhide H4).2.1.cell 0
            have f0 := (unhide H4).2.1.frozen 0
            go_simp
            have hSa' : True := trivial
            clear x0 f0
            refine hK _ _ hSa' (fun _ => ?_)
            clear hK K hSa
            have hSa := hSa'
            clear hSa'
            refine wpAnyH_done (by kernel_rfl) ?_ _
            clear hSa
            try simp only [Act.put, List.setIfInBounds_toArray, List.set_cons_zero, List.set_cons_succ]
            have hI5 : LnAt w0.heap.size P Q (ys ++ [L0]) (.slice a4 (ys.length + 1) c4) (w4.setCell ⟨P, 0, none⟩ (.slice a4 (ys.length + 1) c4)) := by
              rw [unhide HBS] at H4
              exact lnat_store (unhide H4).2.1 (unhide H4).1 (unhide H4).2.2.1 (unhide HPQ).2.2
            have hb5 := (unhide H4).2.2.2.setCell (p := ⟨P, 0, none⟩) (unhide HPQ).1 (.slice a4 (ys.length + 1) c4)
            generalize w4.setCell ⟨P, 0, none⟩ (.slice a4 (ys.length + 1) c4) = w5 at *
            have hD5 : Below w5.heap.size w5 w5.drew := below_draws w5 1
            have H5 := hide (And.intro (hI5.later hD5) (hb5.trans (hD5.mono hb5.size)))
            have HS5 : Hid (KeepG Q (.func (.func 27) #[] #[.pointer (some ⟨P, 0, none⟩), .pointer (some ⟨Q, 0, none⟩)]) g (o + j * 6 + 5) (.slice qk kids.len ck) w5.drew) := hide ⟨(unhide H5).1.fn.cell 0, cell_later (unhide H5).2 (unhide HL5)⟩
            clear hI5 hb5 hD5 z1
            have hwd : IntKind.i64.wrap ((d : Int) + 1) = (d : Int) + 1 := by simp [IntKind.wrap, IntKind.bits, IntKind.signed]; omega
            go_wp2_with fail
            have hSa := unhide HS5
            refine wp_region_held (S := KeepG Q (.func (.func 27) #[] #[.pointer (some ⟨P, 0, none⟩), .pointer (some ⟨Q, 0, none⟩)]) g (o + j * 6 + 5) (.slice qk kids.len ck)) (by kernel_rfl) ?_
            change wpAnyH _ _ _ _ _ _ _ _ (World.drew _)
            refine wpAnyH_take (i := 0) (oi := { dst := some 22, op := _, type := _, pos := _, after := _, guard := _ }) (v := ?vb0_24) rfl (by kernel_rfl) (by kernel_rfl) (by kernel_rfl) (fun _ _ _ h => h) (Or.inl ⟨by kernel_rfl, ?hb0_24⟩) hSa ?rb0_24
            case hb0_24 => first | (intro w hSw; obtain ⟨s0, s5⟩ := hSw; go_simp; done) | (intro w hSw; obtain ⟨s0, s5⟩ := hSw; go_simp; with_reducible rfl)
            try simp only [Act.put, List.setIfInBounds_toArray, List.set_cons_zero, List.set_cons_succ]
            refine wpAnyH_take (i := 1) (oi := { dst := some 23, op := _, type := _, pos := _, after := _, guard := _ }) (v := ?vb1_25) rfl (by kernel_rfl) (by kernel_rfl) (by kernel_rfl) (fun _ _ _ h => h) (Or.inl ⟨by kernel_rfl, ?hb1_25⟩) hSa ?rb1_25
            case hb1_25 => first | (intro w hSw; obtain ⟨s0, s5⟩ := hSw; go_simp; done) | (intro w hSw; obtain ⟨s0, s5⟩ := hSw; go_simp; with_reducible rfl)
            try simp only [Act.put, List.setIfInBounds_toArray, List.set_cons_zero, List.set_cons_succ]
            refine wpAnyH_take (i := 2) (oi := { dst := some 24, op := _, type := _, pos := _, after := _, guard := _ }) (v := ?vb2_26) rfl (by kernel_rfl) (by kernel_rfl) (by kernel_rfl) (fun _ _ _ h => h) (Or.inl ⟨by kernel_rfl, ?hb2_26⟩) hSa ?rb2_26
            case hb2_26 => first | (intro w hSw; obtain ⟨s0, s5⟩ := hSw; go_simp; done) | (intro w hSw; obtain ⟨s0, s5⟩ := hSw; go_simp; with_reducible rfl)
            try simp only [Act.put, List.setIfInBounds_toArray, List.set_cons_zero, List.set_cons_succ]
            refine wpAnyH_take (i := 3) (oi := { dst := some 25, op := _, type := _, pos := _, after := _, guard := _ }) (v := ?vb3_27) rfl (by kernel_rfl) (by kernel_rfl) (by kernel_rfl) (fun _ _ _ h => h) (Or.inl ⟨by kernel_rfl, ?hb3_27⟩) hSa ?rb3_27
            case hb3_27 => first | (intro w hSw; obtain ⟨s0, s5⟩ := hSw; go_simp; done) | (intro w hSw; obtain ⟨s0, s5⟩ := hSw; go_simp; with_reducible rfl)
            try simp only [Act.put, List.setIfInBounds_toArray, List.set_cons_zero, List.set_cons_succ]
            refine wpAnyH_take (i := 4) (oi := { dst := some 26, op := _, type := _, pos := _, after := _, guard := _ }) (v := ?vb4_28) rfl (by kernel_rfl) (by kernel_rfl) (by kernel_rfl) (fun _ _ _ h => h) (Or.inl ⟨by kernel_rfl, ?hb4_28⟩) hSa ?rb4_28
            case hb4_28 => first | (intro w hSw; obtain ⟨s0, s5⟩ := hSw; go_simp; done) | (intro w hSw; obtain ⟨s0, s5⟩ := hSw; go_simp; with_reducible rfl)
            try simp only [Act.put, List.setIfInBounds_toArray, List.set_cons_zero, List.set_cons_succ]
            refine wpAnyH_take (i := 5) (oi := { dst := some 27, op := _, type := _, pos := _, after := _, guard := _ }) (v := ?vb5_29) rfl (by kernel_rfl) (by kernel_rfl) (by kernel_rfl) (fun _ _ _ h => h) (Or.inl ⟨by kernel_rfl, ?hb5_29⟩) hSa ?rb5_29
            case hb5_29 => first | (intro w hSw; obtain ⟨s0, s5⟩ := hSw; go_simp; done) | (intro w hSw; obtain ⟨s0, s5⟩ := hSw; go_simp; with_reducible rfl)
            try simp only [Act.put, List.setIfInBounds_toArray, List.set_cons_zero, List.set_cons_succ]
            refine wpAnyH_take (i := 6) (oi := { dst := some 28, op := _, type := _, pos := _, after := _, guard := _ }) (v := ?vb6_30) rfl (by kernel_rfl) (by kernel_rfl) (by kernel_rfl) (fun _ _ _ h => h) (Or.inl ⟨by kernel_rfl, ?hb6_30⟩) hSa ?rb6_30
            case hb6_30 => first | (intro w hSw; obtain ⟨s0, s5⟩ := hSw; go_simp; done) | (intro w hSw; obtain ⟨s0, s5⟩ := hSw; go_simp; with_reducible rfl)
            try simp only [Act.put, List.setIfInBounds_toArray, List.set_cons_zero, List.set_cons_succ]
            refine wpAnyH_take (i := 7) (oi := { dst := some 29, op := _, type := _, pos := _, after := _, guard := _ }) (v := ?vb7_31) rfl (by kernel_rfl) (by kernel_rfl) (by kernel_rfl) (fun _ _ _ h => h) (Or.inl ⟨by kernel_rfl, ?hb7_31⟩) hSa ?rb7_31
            case hb7_31 => first | (intro w hSw; obtain ⟨s0, s5⟩ := hSw; go_simp; done) | (intro w hSw; obtain ⟨s0, s5⟩ := hSw; go_simp; with_reducible rfl)
            try simp only [Act.put, List.setIfInBounds_toArray, List.set_cons_zero, List.set_cons_succ]
            refine wpAnyH_ready (rs := [8]) (by kernel_rfl) (by simp) ?_
            refine AllReadyH.cons rfl (fun K hK => ?_) AllReadyH.nil
            go_simp
            refine (unhide CG (ys ++ [L0]) (.slice a4 (ys.length + 1) c4) w5.drew (by rw [List.length_append]; exact unhide HKC) (unhide H5).1 (unhide H5).2).mono ?_
            rintro e w6 ⟨rfl, ⟨v6, hI6⟩, hb6⟩
            have H6 := hide (And.intro hI6 hb6)
            have hSa' : KeepG Q (.func (.func 27) #[] #[.pointer (some ⟨P, 0, none⟩), .pointer (some ⟨Q, 0, none⟩)]) g (o + j * 6 + 5) (.slice qk kids.len ck) w6 := ⟨hI6.fn.cell 0, cell_later hb6 (unhide HL5)⟩
            clear hI6 hb6 CG
            refine hK _ _ hSa' (fun _ => ?_)
            clear hK K hSa
            have hSa := hSa'
            clear hSa'
            refine wpAnyH_done (by kernel_rfl) ?_ _
            clear hSa hwd
            go_wp2
            go_roundw
            case rel => exact ⟨j + 1, ys ++ [L0] ++ lnF kids (d + 1), v6, by omega, by go_num, by rw [← unhide HLN]; simp [List.append_assoc], (unhide H6).1, (unhide H6).2⟩
            case measure => simp [intOf]; omega
          · go_simp
            have hA3 := (Below.refl w2.heap.size w2).alloc (Nat.le_refl _) (Obj.cells #[.string (s1 ++ s2)] 9)
            have H3 := hide (And.intro ((unhide H2).1.later hA3) ((unhide H2).2.trans (hA3.mono (unhide H2).2.size)))
            have hSa' : True := trivial
            clear hA3
            refine hK _ _ hSa' (fun _ => ?_)
            clear hK K hSa
            have hSa := hSa'
            clear hSa'
            refine wpAnyH_ready (rs := [0]) (by kernel_rfl) (by simp) ?_
            refine AllReadyH.cons rfl (fun K hK => ?_) AllReadyH.nil
            have x0 := (unhide H3).1.blk.cell 0
            go_simp
            have hSa' : True := trivial
            clear x0
            refine hK _ _ hSa' (fun _ => ?_)
            clear hK K hSa
            have hSa := hSa'
            clear hSa'
            refine wpAnyH_ready (rs := [9]) (by kernel_rfl) (by simp) ?_
            refine AllReadyH.cons rfl (fun K hK => ?_) AllReadyH.nil
            obtain ⟨w4, v4, hr, hown, hgr⟩ : ∃ w4 v4, (Builtin.append_ #[26, 26] 26 #[v, .slice (some ⟨w2.heap.size, 0, none⟩) 1 1]).run Tryd.prog (w2.alloc (Obj.cells #[.string (s1 ++ s2)] 9)) = .ok v4 w4 ∧ w4.ownsRow w0.heap.size 9 1 v4 (ys.length + 1) (ys.map Value.string ++ [.string (s1 ++ s2)]) ∧ (w2.alloc (Obj.cells #[.string (s1 ++ s2)] 9)).grownBy w4 v.ownBlock := by
              obtain ⟨v4, w4, h1, h2, h3, _⟩ := run_append_own (P := Tryd.prog) (w2.alloc (Obj.cells #[.string (s1 ++ s2)] 9)) w0.heap.size 26 26 9 i0 (.string ⟨#[]⟩) 1 16 Tryd.underlying26 hi0 hi1 hi2 hi3 rfl (by decide) v ys.length (ys.map Value.string) (unhide H3).1.row ⟨w2.heap.size, 0, none⟩ 1 1 [.string (s1 ++ s2)] rfl (fun j u hj => lit1 hj) (fun u hu => by simp at hu; rw [hu]; rfl) (by unfold maxLen; omega) (by omega) (by have := (unhide H3).2.size; exact this)
              exact ⟨w4, v4, h1, h2, h3⟩
            obtain ⟨a5, n5, c5, hv⟩ : ∃ a5 n5 c5, v = .slice a5 n5 c5 := by obtain ⟨a5, c5, h⟩ := slice_n (unhide H3).1.row; exact ⟨a5, _, c5, h⟩
            refine step_append_run (o := { dst := some 21, op := _, type := _, pos := _, after := _, guard := _ }) rfl (.tmp 12) (.tmp 20) 26 26 rfl v (.slice (some ⟨w2.heap.size, 0, none⟩) 1 1) (by simp [Act.eval, Act.put]) (by simp [Act.eval, Act.put]) hr ?_
            simp only [Act.put, List.setIfInBounds_toArray, List.set_cons_zero, List.set_cons_succ]
            have hne : ∀ b, v.ownBlock = some b → b ≠ P ∧ b ≠ Q ∧ w0.heap.size ≤ b := fun b hb => row_apart (unhide H3).1 hb
            have hb4 := (unhide H3).2.grown hgr (unhide H3).2.size (fun k hk => (hne k hk).2.2)
            have kP : Blk w4 P #[v] 26 := (hgr.block P (unhide H3).1.blk.lt (fun e => (hne P e.symm).1 rfl)).trans (unhide H3).1.blk
            have kQ : Blk w4 Q #[(.func (.func 27) #[] #[.pointer (some ⟨P, 0, none⟩), .pointer (some ⟨Q, 0, none⟩)])] 61 := (hgr.block Q (unhide H3).1.fn.lt (fun e => (hne Q e.symm).2.1 rfl)).trans (unhide H3).1.fn
            have H4 := hide (And.intro hown (And.intro kP (And.intro kQ hb4)))
            obtain ⟨a4, c4, hv4⟩ := slice_n hown
            subst hv4
            have hSa' : True := trivial
            clear hr hown hgr hne hb4 kP kQ
            refine hK _ _ hSa' (fun _ => ?_)
            clear hK K hSa
            have hSa := hSa'
            clear hSa'
            refine wpAnyH_ready (rs := [10]) (by kernel_rfl) (by simp) ?_
            refine AllReadyH.cons rfl (fun K hK => ?_) AllReadyH.nil
            have x0 := (unhide H4).2.1.cell 0
            have f0 := (unhide H4).2.1.frozen 0
            go_simp
            have hSa' : True := trivial
            clear x0 f0
            refine hK _ _ hSa' (fun _ => ?_)
            clear hK K hSa
            have hSa := hSa'
            clear hSa'
            refine wpAnyH_done (by kernel_rfl) ?_ _
            clear hSa
            try simp only [Act.put, List.setIfInBounds_toArray, List.set_cons_zero, List.set_cons_succ]
            have hI5 : LnAt w0.heap.size P Q (ys ++ [L0]) (.slice a4 (ys.length + 1) c4) (w4.setCell ⟨P, 0, none⟩ (.slice a4 (ys.length + 1) c4)) := by
              rw [unhide HBS] at H4
              exact lnat_store (unhide H4).2.1 (unhide H4).1 (unhide H4).2.2.1 (unhide HPQ).2.2
            have hb5 := (unhide H4).2.2.2.setCell (p := ⟨P, 0, none⟩) (unhide HPQ).1 (.slice a4 (ys.length + 1) c4)
            generalize w4.setCell ⟨P, 0, none⟩ (.slice a4 (ys.length + 1) c4) = w5 at *
            have hD5 : Below w5.heap.size w5 w5.drew := below_draws w5 1
            have H5 := hide (And.intro (hI5.later hD5) (hb5.trans (hD5.mono hb5.size)))
            have HS5 : Hid (KeepG Q (.func (.func 27) #[] #[.pointer (some ⟨P, 0, none⟩), .pointer (some ⟨Q, 0, none⟩)]) g (o + j * 6 + 5) (.slice qk kids.len ck) w5.drew) := hide ⟨(unhide H5).1.fn.cell 0, cell_later (unhide H5).2 (unhide HL5)⟩
            clear hI5 hb5 hD5 z1
            have hwd : IntKind.i64.wrap ((d : Int) + 1) = (d : Int) + 1 := by simp [IntKind.wrap, IntKind.bits, IntKind.signed]; omega
            go_wp2_with fail
            have hSa := unhide HS5
            refine wp_region_held (S := KeepG Q (.func (.func 27) #[] #[.pointer (some ⟨P, 0, none⟩), .pointer (some ⟨Q, 0, none⟩)]) g (o + j * 6 + 5) (.slice qk kids.len ck)) (by kernel_rfl) ?_
            change wpAnyH _ _ _ _ _ _ _ _ (World.drew _)
            refine wpAnyH_take (i := 0) (oi := { dst := some 22, op := _, type := _, pos := _, after := _, guard := _ }) (v := ?vb0_32) rfl (by kernel_rfl) (by kernel_rfl) (by kernel_rfl) (fun _ _ _ h => h) (Or.inl ⟨by kernel_rfl, ?hb0_32⟩) hSa ?rb0_32
            case hb0_32 => first | (intro w hSw; obtain ⟨s0, s5⟩ := hSw; go_simp; done) | (intro w hSw; obtain ⟨s0, s5⟩ := hSw; go_simp; with_reducible rfl)
            try simp only [Act.put, List.setIfInBounds_toArray, List.set_cons_zero, List.set_cons_succ]
            refine wpAnyH_take (i := 1) (oi := { dst := some 23, op := _, type := _, pos := _, after := _, guard := _ }) (v := ?vb1_33) rfl (by kernel_rfl) (by kernel_rfl) (by kernel_rfl) (fun _ _ _ h => h) (Or.inl ⟨by kernel_rfl, ?hb1_33⟩) hSa ?rb1_33
            case hb1_33 => first | (intro w hSw; obtain ⟨s0, s5⟩ := hSw; go_simp; done) | (intro w hSw; obtain ⟨s0, s5⟩ := hSw; go_simp; with_reducible rfl)
            try simp only [Act.put, List.setIfInBounds_toArray, List.set_cons_zero, List.set_cons_succ]
            refine wpAnyH_take (i := 2) (oi := { dst := some 24, op := _, type := _, pos := _, after := _, guard := _ }) (v := ?vb2_34) rfl (by kernel_rfl) (by kernel_rfl) (by kernel_rfl) (fun _ _ _ h => h) (Or.inl ⟨by kernel_rfl, ?hb2_34⟩) hSa ?rb2_34
            case hb2_34 => first | (intro w hSw; obtain ⟨s0, s5⟩ := hSw; go_simp; done) | (intro w hSw; obtain ⟨s0, s5⟩ := hSw; go_simp; with_reducible rfl)
            try simp only [Act.put, List.setIfInBounds_toArray, List.set_cons_zero, List.set_cons_succ]
            refine wpAnyH_take (i := 3) (oi := { dst := some 25, op := _, type := _, pos := _, after := _, guard := _ }) (v := ?vb3_35) rfl (by kernel_rfl) (by kernel_rfl) (by kernel_rfl) (fun _ _ _ h => h) (Or.inl ⟨by kernel_rfl, ?hb3_35⟩) hSa ?rb3_35
            case hb3_35 => first | (intro w hSw; obtain ⟨s0, s5⟩ := hSw; go_simp; done) | (intro w hSw; obtain ⟨s0, s5⟩ := hSw; go_simp; with_reducible rfl)
            try simp only [Act.put, List.setIfInBounds_toArray, List.set_cons_zero, List.set_cons_succ]
            refine wpAnyH_take (i := 4) (oi := { dst := some 26, op := _, type := _, pos := _, after := _, guard := _ }) (v := ?vb4_36) rfl (by kernel_rfl) (by kernel_rfl) (by kernel_rfl) (fun _ _ _ h => h) (Or.inl ⟨by kernel_rfl, ?hb4_36⟩) hSa ?rb4_36
            case hb4_36 => first | (intro w hSw; obtain ⟨s0, s5⟩ := hSw; go_simp; done) | (intro w hSw; obtain ⟨s0, s5⟩ := hSw; go_simp; with_reducible rfl)
            try simp only [Act.put, List.setIfInBounds_toArray, List.set_cons_zero, List.set_cons_succ]
            refine wpAnyH_take (i := 5) (oi := { dst := some 27, op := _, type := _, pos := _, after := _, guard := _ }) (v := ?vb5_37) rfl (by kernel_rfl) (by kernel_rfl) (by kernel_rfl) (fun _ _ _ h => h) (Or.inl ⟨by kernel_rfl, ?hb5_37⟩) hSa ?rb5_37
            case hb5_37 => first | (intro w hSw; obtain ⟨s0, s5⟩ := hSw; go_simp; done) | (intro w hSw; obtain ⟨s0, s5⟩ := hSw; go_simp; with_reducible rfl)
            try simp only [Act.put, List.setIfInBounds_toArray, List.set_cons_zero, List.set_cons_succ]
            refine wpAnyH_take (i := 6) (oi := { dst := some 28, op := _, type := _, pos := _, after := _, guard := _ }) (v := ?vb6_38) rfl (by kernel_rfl) (by kernel_rfl) (by kernel_rfl) (fun _ _ _ h => h) (Or.inl ⟨by kernel_rfl, ?hb6_38⟩) hSa ?rb6_38
            case hb6_38 => first | (intro w hSw; obtain ⟨s0, s5⟩ := hSw; go_simp; done) | (intro w hSw; obtain ⟨s0, s5⟩ := hSw; go_simp; with_reducible rfl)
            try simp only [Act.put, List.setIfInBounds_toArray, List.set_cons_zero, List.set_cons_succ]
            refine wpAnyH_take (i := 7) (oi := { dst := some 29, op := _, type := _, pos := _, after := _, guard := _ }) (v := ?vb7_39) rfl (by kernel_rfl) (by kernel_rfl) (by kernel_rfl) (fun _ _ _ h => h) (Or.inl ⟨by kernel_rfl, ?hb7_39⟩) hSa ?rb7_39
            case hb7_39 => first | (intro w hSw; obtain ⟨s0, s5⟩ := hSw; go_simp; done) | (intro w hSw; obtain ⟨s0, s5⟩ := hSw; go_simp; with_reducible rfl)
            try simp only [Act.put, List.setIfInBounds_toArray, List.set_cons_zero, List.set_cons_succ]
            refine wpAnyH_ready (rs := [8]) (by kernel_rfl) (by simp) ?_
            refine AllReadyH.cons rfl (fun K hK => ?_) AllReadyH.nil
            go_simp
            refine (unhide CG (ys ++ [L0]) (.slice a4 (ys.length + 1) c4) w5.drew (by rw [List.length_append]; exact unhide HKC) (unhide H5).1 (unhide H5).2).mono ?_
            rintro e w6 ⟨rfl, ⟨v6, hI6⟩, hb6⟩
            have H6 := hide (And.intro hI6 hb6)
            have hSa' : KeepG Q (.func (.func 27) #[] #[.pointer (some ⟨P, 0, none⟩), .pointer (some ⟨Q, 0, none⟩)]) g (o + j * 6 + 5) (.slice qk kids.len ck) w6 := ⟨hI6.fn.cell 0, cell_later hb6 (unhide HL5)⟩
            clear hI6 hb6 CG
            refine hK _ _ hSa' (fun _ => ?_)
            clear hK K hSa
            have hSa := hSa'
            clear hSa'
            refine wpAnyH_done (by kernel_rfl) ?_ _
            clear hSa hwd
            go_wp2
            go_roundw
            case rel => exact ⟨j + 1, ys ++ [L0] ++ lnF kids (d + 1), v6, by omega, by go_num, by rw [← unhide HLN]; simp [List.append_assoc], (unhide H6).1, (unhide H6).2⟩
            case measure => simp [intOf]; omega
    · have hpi : ¬ (j : Int) < (f.len : Int) := by omega
      rw [f.drop_out j (by omega)] at hys
      have HF : Hid (ys = xs ++ lnF f d) := hide (by rw [← hys]; simp [lnF])
      have HX := hide (And.intro hI hbw)
      clear hp hys hI hbw hyl
      go_wp2
      refine bodyPost_end (v := .tuple #[]) (results_none Tryd.results27 _ _ _) rfl ?_
      exact ⟨rfl, ⟨v, by rw [← unhide HF]; exact (unhide HX).1⟩, (unhide HX).2⟩
theorem gather_any (w0 : World) (ht : Tabs w0) (hm : MxJ w0) (P Q : Nat) (hP : w0.heap.size ≤ P) (hQ : w0.heap.size ≤ Q) (hPQ : P ≠ Q) : ∀ (m : Nat) (f : Forest), f.count ≤ m → ∀ (q : Option Addr) (cap d : Nat) (xs : List ByteArray) (v : Value) (w : World), Fo q f w0 → SmF f → d + m ≤ 1000000 → xs.length + f.count ≤ 1000000 → LnAt w0.heap.size P Q xs v w → Below w0.heap.size w0 w →
    Calls Tryd.prog 27 #[.slice q f.len cap, .int .i64 d, .pointer (some ⟨P, 0, none⟩), .pointer (some ⟨Q, 0, none⟩)] w (LnSaid w0 P Q (xs ++ lnF f d))
  | m, f, hmc, q, cap, d, xs, v, w, hf, hsm, hd, hxs, hI, hb => by
    rcases hf with rfl | ⟨g, o, rfl, hl⟩
    · refine (gather_none w0.heap.size P Q q cap d w).mono ?_
      rintro e w' ⟨rfl, rfl⟩
      exact ⟨rfl, ⟨v, by simpa [lnF] using hI⟩, hb⟩
    · refine gather_some w0 ht hm P Q hP hQ hPQ f g o cap d xs v w hl hsm (by omega) hxs hI hb (fun j k sp n ats tx kids hdr q cap ys v W hfk h1 h2 h3 => ?_)
      have hc1 : (f.drop j).count ≤ f.count := f.count_drop j
      have hs := sm_drop' j f hsm
      rw [hdr] at hc1 hs
      have hc2 : 1 + kids.count + (f.drop (j + 1)).count ≤ f.count := hc1
      match m, hmc with
      | 0, hmc => omega
      | m + 1, hmc =>
        have := gather_any w0 ht hm P Q hP hQ hPQ m kids (by omega) q cap (d + 1) ys v W hfk hs.2.1 (by omega) h1 h2 h3
        rw [show ((d + 1 : Nat) : Int) = (d : Int) + 1 by omega] at this
        exact this
end Go.Proofs.YtfbgpodcdgmpjaaDoor
