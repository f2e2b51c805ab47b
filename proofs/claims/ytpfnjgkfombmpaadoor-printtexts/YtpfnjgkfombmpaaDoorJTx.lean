/-
  What 'print.Text' and 'print.Size' do.
-/
import Derived.Test.YtpfnjgkfombmpaaDoorJWr
namespace Go.Proofs.YtpfnjgkfombmpaaDoor
open Go.RowKit
set_option linter.unusedVariables false
set_option linter.unusedSimpArgs false

theorem ah_len {k : Int} {n tx : ByteArray} {ats : List (ByteArray × ByteArray)} {raw : Bool} (hf : Fits ats) (hn : n.size ≤ 5000) (ht : tx.size ≤ 5000) : (ahL k n.data.toList ats tx.data.toList raw).length ≤ 90000000 := by
  have h1 := att_len hf ats.length (Nat.le_refl _)
  have h2 := hf.1
  have h3 := data_len n
  have h4 := data_len tx
  have h5 := esc_len false tx.data.toList false
  have h6 : (escL false tx.data.toList).length ≤ 6 * tx.data.toList.length := h5
  unfold ahL
  split
  · unfold openL; simp only [List.length_append, List.length_cons, List.length_nil]; omega
  split
  · unfold noteL; simp only [List.length_append, List.length_cons, List.length_nil]; omega
  split
  · split <;> omega
  · simp
theorem tx_len : ∀ (f : Forest) (raw : Bool), SmF f → (txF f raw).length ≤ 100000000 * f.count
  | .nil, raw, _ => by simp [txF]
  | .cons k sp n ats tx kids rest, raw, h => by
    have h1 := tx_len kids (rwB k sp n) h.2.1
    have h2 := tx_len rest raw h.2.2
    have h3 := ah_len (k := k) (raw := raw) h.1.2.2.1 h.1.2.1 h.1.1
    have h4 := data_len n
    have h5 := h.1.2.1
    rw [txF]
    simp only [Forest.count, List.length_append]
    split
    · rw [List.length_append]
      unfold endL
      simp only [List.length_append, List.length_cons, List.length_nil]
      omega
    · rw [List.length_nil]; omega
theorem bldF_keptL {B b : Nat} {l : List UInt8} {w w1 : World} (h : BldF B b l w) (hk : Lib.OthersKept 93 none w w1) : BldF B b l w1 := by
  have one : ∀ p, Lib.BuilderAtF 62 5 B b p (Lib.byteCells l) w → Lib.BuilderAtF 62 5 B b p (Lib.byteCells l) w1 := by
    intro p h
    obtain ⟨hB, v, hbk, hown, hne⟩ := h
    refine ⟨hB, v, hk _ _ hbk (by simp) (fun c fz e => by injection e with _ e; revert e; decide), ?_, hne⟩
    obtain ⟨hl, h⟩ := hown
    refine ⟨hl, ?_⟩
    rcases h with h | ⟨g, cap, cur, fz, h1, h2, h3, h4⟩
    · exact .inl h
    · exact .inr ⟨g, cap, cur, fz, h1, h2, hk _ _ h3 (by simp) (fun c fz e => by injection e with _ e; revert e; decide), h4⟩
  rcases h with h | h
  · exact .inl (one _ h)
  · exact .inr (one _ h)
theorem keepL_of {B b : Nat} {l : List UInt8} {w w' : World} (h : BldF B b l w) (hb : Below B w w') (ho : Oth b w w') : KeepL w w' := by
  refine ⟨hb.size, fun k c hk => ho k _ hk ?_ ?_⟩
  · intro e
    obtain ⟨c', hc'⟩ := bldF_blk' h
    injection e with e
    rw [e, hc'] at hk
    injection hk with hk
    injection hk with _ hk
    revert hk; decide
  · intro c' fz e
    injection e with _ e
    revert e; decide
set_option maxHeartbeats 1000000 in
theorem text1_any (l : List UInt8) (B G : Nat) (s : ByteArray) (w : World) (hG : BldF B G l w) (hlen : l.length + s.size ≤ 140737488355328) (hBw : B ≤ w.heap.size) :
    Calls Tryd.prog 41 #[.string s, .pointer (some ⟨G, 0, none⟩)] w fun e w' => e = .returned (.tuple #[]) ∧ BldF B G (l ++ s.data.toList) w' ∧ Below B w w' ∧ Oth G w w' := by
  have C := hide (writeStringK B G l s w hG hlen hBw)
  generalize l ++ s.data.toList = L at *
  clear hG hlen
  go_enter Tryd.func41, Tryd.ntmps41
  go_wp2_with fail
  refine (unhide C).mono ?_
  rintro e w1 ⟨rfl, h1, h2, h3⟩
  have HX := hide (And.intro h1 (And.intro h2 h3))
  clear h1 h2 h3 C
  go_wp2
  refine bodyPost_end (v := .tuple #[]) (results_none Tryd.results41 _ _ _) rfl ?_
  exact ⟨rfl, unhide HX⟩
set_option maxHeartbeats 1000000 in
theorem size1_any (c G : Nat) (s : ByteArray) (w : World) (hG : Blk w G #[.int .i64 (c : Int)] 3) (hlen : c + s.size ≤ 140737488355328) :
    Calls Tryd.prog 44 #[.string s, .pointer (some ⟨G, 0, none⟩)] w fun e w' => e = .returned (.tuple #[]) ∧ w' = w.setCell ⟨G, 0, none⟩ (.int .i64 ((c + s.size : Nat) : Int)) := by
  have c0 : w.cell? ⟨G, 0, none⟩ = some (.int .i64 (c : Int)) := hG.cell 0
  have f0 : w.frozen? ⟨G, 0, none⟩ = false := hG.frozen 0
  have hi : (c : Int) + (s.size : Int) ≤ 140737488355328 := by omega
  rw [show ((c + s.size : Nat) : Int) = (c : Int) + (s.size : Int) by omega]
  clear hG hlen
  go_enter Tryd.func44, Tryd.ntmps44
  go_wp2
  refine bodyPost_end (v := .tuple #[]) (results_none Tryd.results44 _ _ _) rfl ?_
  exact ⟨rfl, rfl⟩
set_option maxHeartbeats 1000000 in
theorem ptext_any (f : Forest) (q : Option Addr) (cap : Nat) (w : World) (ht : Tabs w) (hf : Fo q f w) (hs : SmF f) (hcap : f.len ≤ cap) (hc : f.count ≤ 1000000) :
    Calls Tryd.prog 19 #[.slice q f.len cap] w fun e w' => e = .returned (.string (bs (txF f false))) ∧ Below w.heap.size w w' := by
  have hwl := tx_len f false hs
  have CW := hide (write_text (fun l W => BldF w.heap.size w.heap.size l W) w.heap.size w (txF f false) ht
    (fun l V V' h hk => bldF_keptL h hk) (fun l V V' h hb => bldF_below h hb)
    (fun l s V hI hb hl => (text1_any l w.heap.size w.heap.size s V hI (by omega) hb.size).mono fun e V' ⟨h1, h2, h3, h4⟩ => ⟨h1, h2, hb.trans h3, keepL_of hI h3 h4⟩)
    f q cap (w.alloc (Obj.cells #[.pointer none, .slice none 0 0] 62)) hf hs hcap hc rfl (bldF_new w) ((Below.refl _ _).alloc (Nat.le_refl _) _))
  generalize txF f false = L at *
  clear hf hs hwl ht
  go_enter Tryd.func19, Tryd.ntmps19
  go_wp2_with fail
  refine (unhide CW).mono ?_
  rintro e w1 ⟨rfl, hk, hb⟩
  have CS := hide (stringK w.heap.size w.heap.size L w1 hk hb.size)
  have HB := hide hb
  clear hk CW hb
  go_wp2_with fail
  refine (unhide CS).mono ?_
  rintro e w2 ⟨rfl, hb2⟩
  have HB2 := hide ((unhide HB).trans hb2)
  clear hb2 HB
  go_wp2
  go_ret
  exact ⟨rfl, unhide HB2⟩
def SzAt (G : Nat) (l : List UInt8) (w : World) : Prop := Blk w G #[.int .i64 (l.length : Int)] 3
set_option maxHeartbeats 1000000 in
theorem psize_any (f : Forest) (q : Option Addr) (cap : Nat) (w : World) (ht : Tabs w) (hf : Fo q f w) (hs : SmF f) (hcap : f.len ≤ cap) (hc : f.count ≤ 1000000) :
    Calls Tryd.prog 20 #[.slice q f.len cap] w fun e w' => e = .returned (.int .i64 ((txF f false).length : Int)) ∧ Below w.heap.size w w' := by
  have hwl := tx_len f false hs
  have CW := hide (write_size (SzAt w.heap.size) w.heap.size w (txF f false) ht
    (fun l V V' h hk => hk _ _ h (by simp) (fun c fz e => by injection e with _ e; revert e; decide)) (fun l V V' h hb => Blk.later h hb)
    (fun l s V hI hb hl => (size1_any l.length w.heap.size s V hI (by omega)).mono fun e V' ⟨h1, h2⟩ => by
      subst h2
      refine ⟨h1, ?_, hb.setCell (p := ⟨w.heap.size, 0, none⟩) (Nat.le_refl _) _, by simp, fun k c hk => ?_⟩
      · show Blk _ _ #[.int .i64 ((l ++ s.data.toList).length : Int)] _
        rw [List.length_append, data_len]
        exact Blk.set (vs := #[.int .i64 (l.length : Int)]) hI 0 (by simp) _
      · refine (Below.heap_setCell V ⟨w.heap.size, 0, none⟩ _ k ?_).trans hk
        intro e
        have e' : k = w.heap.size := e
        rw [e', show V.heap[w.heap.size]? = _ from hI] at hk
        injection hk with hk
        injection hk with _ hk
        revert hk; decide)
    f q cap (w.alloc (Obj.cells #[.int .i64 0] 3)) hf hs hcap hc rfl (Blk.new w _ _) ((Below.refl _ _).alloc (Nat.le_refl _) _))
  generalize txF f false = L at *
  clear hf hs hwl ht
  go_enter Tryd.func20, Tryd.ntmps20
  go_wp2_with fail
  refine (unhide CW).mono ?_
  rintro e w1 ⟨rfl, hk, hb⟩
  have c0 : w1.cell? ⟨w.heap.size, 0, none⟩ = some (.int .i64 (L.length : Int)) := Blk.cell hk 0
  have HB := hide hb
  clear hk CW hb
  go_wp2
  go_ret
  exact ⟨rfl, unhide HB⟩
end Go.Proofs.YtpfnjgkfombmpaaDoor
