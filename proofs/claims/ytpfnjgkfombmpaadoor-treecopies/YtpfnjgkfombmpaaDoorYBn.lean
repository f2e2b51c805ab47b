/-
  What a tree.writer's num, text and node write (made by mk_ybn.py).
-/
import Derived.Test.YtpfnjgkfombmpaaDoorYBw
namespace Go.Proofs.YtpfnjgkfombmpaaDoor
open Go.RowKit
set_option linter.unusedVariables false
set_option linter.unusedSimpArgs false

def OthS (b : Nat) (w w' : World) : Prop := Oth b w w' ∧ w.heap.size ≤ w'.heap.size
theorem OthS.trans {b : Nat} {w w1 w2 : World} (h : OthS b w w1) (h' : OthS b w1 w2) : OthS b w w2 := ⟨Lib.OthersKept.trans h.1 h'.1, Nat.le_trans h.2 h'.2⟩
theorem OthS.alloc {b : Nat} {w w1 : World} (h : OthS b w w1) (o : Obj) : OthS b w (w1.alloc o) := ⟨Lib.OthersKept.alloc h.1 o, by have := h.2; simp; omega⟩
theorem othS_of_below {b : Nat} {w w' : World} (h : Below w.heap.size w w') : OthS b w w' := ⟨oth_of_below h, h.size⟩
def numW (n : Int) : List UInt8 := if 0 ≤ n ∧ n ≤ 1099511627776 then nb n else []
theorem numW_len (n : Int) : (numW n).length ≤ 7 := by
  unfold numW
  split
  · have := nb_size n; rw [bs_size] at this; exact this
  · exact Nat.zero_le _
theorem qnum_any (n : Int) (w : World) : ∃ (s : ByteArray) (er : Int), s.data.toList = numW n ∧ s.size ≤ 7 ∧ Calls Tryd.prog 85 #[.int .i64 n] w fun e w' => e = .returned (.tuple #[.string s, .int .i64 er]) ∧ Below w.heap.size w w' := by
  by_cases h : 0 ≤ n ∧ n ≤ 1099511627776
  · exact ⟨bs (nb n), 0, by rw [bs_toList, numW, if_pos h], nb_size n, num_ok n w h.1 h.2⟩
  · exact ⟨⟨#[]⟩, 1, by rw [numW, if_neg h], Nat.zero_le _, num_no n w (by omega)⟩
set_option maxHeartbeats 2000000 in
theorem wnum_any (B b : Nat) (er : Int) (l : List UInt8) (n : Int) (w : World) (h : Wrt B b er l w) (hlen : l.length ≤ 100000000000000) (hBw : B ≤ w.heap.size) :
    Calls Tryd.prog 56 #[.pointer (some ⟨b, 0, none⟩), .int .i64 n] w fun e w' => e = .returned (.tuple #[]) ∧ Wrt B b er (l ++ numW n) w' ∧ Below B w w' ∧ OthS b w w' := by
  obtain ⟨s, e0, hs, hs7, C⟩ := qnum_any n w
  have CN := hide C
  have CW := hide (fun (W : World) (hW : Below w.heap.size w W) => wwrite_any B b er l s W (wrt_below h hW) (by omega) (by have := hW.size; omega))
  rw [hs] at CW
  have hbl : B ≤ w.heap.size := hBw
  clear C h hs
  go_enter Tryd.func56, Tryd.ntmps56
  go_wp2_with fail
  refine (unhide CN).mono ?_
  rintro e w1 ⟨rfl, hb1⟩
  have CW1 := hide (unhide CW w1 hb1)
  have HB1 := hide hb1
  clear CW CN hb1
  go_wp2_with fail
  refine (unhide CW1).mono ?_
  rintro e w2 ⟨rfl, h2, hb2, ho2⟩
  have HX := hide (And.intro h2 (And.intro (((unhide HB1).mono hbl).trans hb2) ((othS_of_below (b := b) (unhide HB1)).trans ⟨ho2, hb2.size⟩)))
  clear CW1 h2 hb2 ho2
  go_wp2
  refine bodyPost_end (v := .tuple #[]) (results_none Tryd.results56 _ _ _) rfl ?_
  exact ⟨rfl, unhide HX⟩
set_option maxHeartbeats 2000000 in
theorem wtext_any (B b : Nat) (er : Int) (l : List UInt8) (s : ByteArray) (w : World) (h : Wrt B b er l w) (hs : s.size ≤ 65536) (hlen : l.length ≤ 100000000000000) (hBw : B ≤ w.heap.size) :
    Calls Tryd.prog 86 #[.pointer (some ⟨b, 0, none⟩), .string s] w fun e w' => e = .returned (.tuple #[]) ∧ Wrt B b er (l ++ tb s) w' ∧ Below B w w' ∧ OthS b w w' := by
  have CN := hide (text_ok s w hs)
  have htl := tb_len s
  have hsz : (bs (tb s)).size ≤ 70000 := by rw [bs_size]; omega
  have CW := hide (fun (W : World) (hW : Below w.heap.size w W) => wwrite_any B b er l (bs (tb s)) W (wrt_below h hW) (by omega) (by have := hW.size; omega))
  rw [bs_toList] at CW
  rw [show nb s.size ++ s.data.toList = tb s from rfl] at CN
  have hbl : B ≤ w.heap.size := hBw
  generalize bs (tb s) = z at *
  clear h htl
  go_enter Tryd.func86, Tryd.ntmps86
  go_wp2_with fail
  refine (unhide CN).mono ?_
  rintro e w1 ⟨rfl, hb1⟩
  have CW1 := hide (unhide CW w1 hb1)
  have HB1 := hide hb1
  clear CW CN hb1
  go_wp2_with fail
  refine (unhide CW1).mono ?_
  rintro e w2 ⟨rfl, h2, hb2, ho2⟩
  have HX := hide (And.intro h2 (And.intro (((unhide HB1).mono hbl).trans hb2) ((othS_of_below (b := b) (unhide HB1)).trans ⟨ho2, hb2.size⟩)))
  clear CW1 h2 hb2 ho2
  go_wp2
  refine bodyPost_end (v := .tuple #[]) (results_none Tryd.results86 _ _ _) rfl ?_
  exact ⟨rfl, unhide HX⟩

/-- The bytes of attributes, of a node without its kids. -/
def atW : List (ByteArray × ByteArray) → List UInt8
  | [] => []
  | a :: r => tb a.1 ++ (tb a.2 ++ atW r)
def nodeL (k sp : Int) (n : ByteArray) (ats : List (ByteArray × ByteArray)) (tx : ByteArray) (kl : Nat) : List UInt8 :=
  if k = 1 then numW k ++ (numW sp ++ (tb n ++ (numW ats.length ++ (atW ats ++ numW kl)))) else numW k ++ tb tx
theorem atW_drop (ats : List (ByteArray × ByteArray)) (j : Nat) (hj : j < ats.length) : atW (ats.drop j) = tb (an ats j) ++ (tb (av ats j) ++ atW (ats.drop (j + 1))) := by
  rw [List.drop_eq_getElem_cons hj, atW]
  have h3 : ats.getD j (ByteArray.empty, ByteArray.empty) = ats[j] := by simp [List.getD, List.getElem?_eq_getElem hj]
  unfold an av
  rw [h3]
/-- What a call of the writer leaves. -/
def WrN (w0 : World) (b : Nat) (w : World) (l : List UInt8) (w' : World) : Prop := Wrt w0.heap.size b 0 l w' ∧ Below w0.heap.size w0 w' ∧ OthS b w w'
set_option maxHeartbeats 4000000 in
theorem wnode_text (w0 : World) (b : Nat) (l : List UInt8) (k sp : Int) (n : ByteArray) (ats : List (ByteArray × ByteArray)) (tx : ByteArray) (kids rest : Forest) (g o : Nat) (w : World) (hk : ¬ k = 1) (h : Wrt w0.heap.size b 0 l w) (hb : Below w0.heap.size w0 w) (hl : Lies (.cons k sp n ats tx kids rest) g o w0) (hs : SmF (.cons k sp n ats tx kids rest)) (hlen : l.length ≤ 10000000000000) :
    Calls Tryd.prog 58 #[.pointer (some ⟨b, 0, none⟩), .pointer (some ⟨g, o, none⟩)] w fun e w' => e = .returned (.tuple #[]) ∧ WrN w0 b w (l ++ nodeL k sp n ats tx kids.len) w' := by
  have CN := hide (wnum_any w0.heap.size b 0 l k w h (by omega) hb.size)
  have hn7 := numW_len k
  have htx : tx.size ≤ 65536 := by have := hs.1.1; omega
  have CT := hide (fun (W : World) (h1 : Wrt w0.heap.size b 0 (l ++ numW k) W) (h2 : Below w0.heap.size w0 W) => wtext_any w0.heap.size b 0 (l ++ numW k) tx W h1 htx (by rw [List.length_append]; omega) h2.size)
  have HL := hide (show ∀ W, Below w0.heap.size w0 W → W.cell? ⟨g, o, none⟩ = some (.int .i64 k) ∧ W.cell? ⟨g, o + 4, none⟩ = some (.string tx) from fun W hW => ⟨cell_later hW hl.1.1, cell_later hW hl.1.2.2.2.2.1⟩)
  have c0 := (unhide HL w hb).1
  have HB := hide hb
  have HR : Hid (l ++ nodeL k sp n ats tx kids.len = (l ++ numW k) ++ tb tx) := hide (by rw [nodeL, if_neg hk, List.append_assoc])
  have hbe : (k == 1) = false := beq_eq_false_iff_ne.2 hk
  rw [unhide HR]
  clear h hb hl hs hlen hn7 HR
  generalize l ++ numW k = l1 at *
  go_enter Tryd.func58, Tryd.ntmps58
  go_wp2_with fail
  refine (unhide CN).mono ?_
  rintro e w1 ⟨rfl, h1, hb1, ho1⟩
  have hB1 := (unhide HB).trans hb1
  have CT1 := hide (unhide CT w1 h1 hB1)
  obtain ⟨d0, d4⟩ := unhide HL w1 hB1
  have HX := hide (And.intro hB1 ho1)
  clear CN CT h1 hb1 ho1 hB1 c0 HB HL
  go_wp2_with fail
  refine (unhide CT1).mono ?_
  rintro e w2 ⟨rfl, h2, hb2, ho2⟩
  have HY : Hid (WrN w0 b w (l1 ++ tb tx) w2) := hide ⟨h2, (unhide HX).1.trans hb2, (unhide HX).2.trans ho2⟩
  clear CT1 h2 hb2 ho2 d0 d4
  go_wp2
  refine bodyPost_ret (v := .tuple #[]) (results_none Tryd.results58 _ _ _) rfl ?_
  exact ⟨rfl, unhide HY⟩
set_option maxHeartbeats 8000000 in
set_option maxRecDepth 100000 in
theorem wnode_elem (w0 : World) (b : Nat) (l : List UInt8) (sp : Int) (n : ByteArray) (ats : List (ByteArray × ByteArray)) (tx : ByteArray) (kids rest : Forest) (g o : Nat) (w : World) (h : Wrt w0.heap.size b 0 l w) (hb : Below w0.heap.size w0 w) (hl : Lies (.cons 1 sp n ats tx kids rest) g o w0) (hs : SmF (.cons 1 sp n ats tx kids rest)) (hlen : (l ++ nodeL 1 sp n ats tx kids.len).length ≤ 10000000000000) :
    Calls Tryd.prog 58 #[.pointer (some ⟨b, 0, none⟩), .pointer (some ⟨g, o, none⟩)] w fun e w' => e = .returned (.tuple #[]) ∧ WrN w0 b w (l ++ nodeL 1 sp n ats tx kids.len) w' := by
  have hnl : n.size ≤ 65536 := by have := hs.1.2.1; omega
  have hfit := hs.1.2.2.1
  obtain ⟨⟨l0, l1, l2, ⟨qa, ca, l3, hsl⟩, l4, ⟨qk, ck, l5, hck, hfo⟩⟩, _⟩ := hl
  have HL := hide (show ∀ W, Below w0.heap.size w0 W → W.cell? ⟨g, o, none⟩ = some (.int .i64 1) ∧ W.cell? ⟨g, o + 1, none⟩ = some (.int .i64 sp) ∧ W.cell? ⟨g, o + 2, none⟩ = some (.string n) ∧ W.cell? ⟨g, o + 3, none⟩ = some (.slice qa ats.length ca) ∧ W.cell? ⟨g, o + 5, none⟩ = some (.slice qk kids.len ck) from fun W hW => ⟨cell_later hW l0, cell_later hW l1, cell_later hW l2, cell_later hW l3, cell_later hW l5⟩)
  have HSL := hide (fun W (hW : Below w0.heap.size w0 W) => hsl.below hW)
  have HFT := hide hfit
  have hal : ats.length ≤ 1000 := hfit.1
  have HTOT : Hid (l ++ nodeL 1 sp n ats tx kids.len = ((((l ++ numW 1) ++ numW sp) ++ tb n) ++ numW ats.length) ++ atW ats ++ numW kids.len) := hide (by rw [nodeL, if_pos rfl]; simp only [List.append_assoc])
  rw [unhide HTOT] at hlen
  rw [unhide HTOT]
  simp only [List.length_append] at hlen
  have q0 : l.length ≤ 100000000000000 := by omega
  have q1 : (l ++ numW 1).length ≤ 100000000000000 := by simp only [List.length_append]; omega
  have q2 : ((l ++ numW 1) ++ numW sp).length ≤ 100000000000000 := by simp only [List.length_append]; omega
  have q3 : (((l ++ numW 1) ++ numW sp) ++ tb n).length ≤ 100000000000000 := by simp only [List.length_append]; omega
  have q4 : ((((l ++ numW 1) ++ numW sp) ++ tb n) ++ numW ats.length).length + (atW ats).length ≤ 10000000000000 := by simp only [List.length_append]; omega
  have CN := hide (wnum_any w0.heap.size b 0 l 1 w h q0 hb.size)
  have CS := hide (fun (W : World) (h1 : Wrt w0.heap.size b 0 (l ++ numW 1) W) (h2 : Below w0.heap.size w0 W) => wnum_any w0.heap.size b 0 (l ++ numW 1) sp W h1 q1 h2.size)
  have CT := hide (fun (W : World) (h1 : Wrt w0.heap.size b 0 ((l ++ numW 1) ++ numW sp) W) (h2 : Below w0.heap.size w0 W) => wtext_any w0.heap.size b 0 ((l ++ numW 1) ++ numW sp) n W h1 hnl q2 h2.size)
  have CA := hide (fun (W : World) (h1 : Wrt w0.heap.size b 0 (((l ++ numW 1) ++ numW sp) ++ tb n) W) (h2 : Below w0.heap.size w0 W) => wnum_any w0.heap.size b 0 (((l ++ numW 1) ++ numW sp) ++ tb n) ats.length W h1 q3 h2.size)
  generalize (((l ++ numW 1) ++ numW sp) ++ tb n) = m3 at *
  generalize (l ++ numW 1) ++ numW sp = m2 at *
  generalize l ++ numW 1 = m1 at *
  generalize m3 ++ numW ats.length = m4 at *
  have q5 : (m4 ++ atW ats).length ≤ 100000000000000 := by rw [List.length_append]; omega
  have CK := hide (fun (W : World) (h1 : Wrt w0.heap.size b 0 (m4 ++ atW ats) W) (h2 : Below w0.heap.size w0 W) => wnum_any w0.heap.size b 0 (m4 ++ atW ats) kids.len W h1 q5 h2.size)
  have c0 := (unhide HL w hb).1
  have HB := hide hb
  have hklc : kids.len ≤ ck := hck
  generalize kids.len = kl at *
  clear h hb hs hlen q0 q1 q2 q3 q5 hsl hfo hfit HTOT l0 l1 l2 l3 l4 l5 hck hnl
  go_enter Tryd.func58, Tryd.ntmps58
  go_wp2_with fail
  refine (unhide CN).mono ?_
  rintro e w1 ⟨rfl, h1, hb1, ho1⟩
  have HB1 := hide ((unhide HB).trans hb1)
  have HO1 := hide ho1
  have CS1 := hide (unhide CS w1 h1 (unhide HB1))
  obtain ⟨d0, d1, d2, d3, d5⟩ := unhide HL w1 (unhide HB1)
  clear CN CS h1 hb1 ho1 c0 HB d2 d3 d5
  go_wp2_with fail
  refine (unhide CS1).mono ?_
  rintro e w2 ⟨rfl, h2, hb2, ho2⟩
  have HB2 := hide ((unhide HB1).trans hb2)
  have HO2 := hide ((unhide HO1).trans ho2)
  have CT1 := hide (unhide CT w2 h2 (unhide HB2))
  clear d0 d1
  obtain ⟨d0, d1, d2, d3, d5⟩ := unhide HL w2 (unhide HB2)
  clear CT CS1 h2 hb2 ho2 HB1 HO1 d0 d1 d3 d5
  go_wp2_with fail
  refine (unhide CT1).mono ?_
  rintro e w3 ⟨rfl, h3, hb3, ho3⟩
  have HB3 := hide ((unhide HB2).trans hb3)
  have HO3 := hide ((unhide HO2).trans ho3)
  have CA1 := hide (unhide CA w3 h3 (unhide HB3))
  clear d2
  obtain ⟨d0, d1, d2, d3, d5⟩ := unhide HL w3 (unhide HB3)
  clear CA CT1 h3 hb3 ho3 HB2 HO2 d0 d1 d2 d5
  go_wp2_with fail
  refine (unhide CA1).mono ?_
  rintro e w4 ⟨rfl, h4, hb4, ho4⟩
  have HB4 := hide ((unhide HB3).trans hb4)
  have HO4 := hide ((unhide HO3).trans ho4)
  have HW4 := hide h4
  clear d3
  obtain ⟨d0, d1, d2, d3, d5⟩ := unhide HL w4 (unhide HB4)
  clear CA1 h4 hb4 ho4 HB3 HO3 d0 d1 d2 d5
  go_wp2
  clear d3
  go_loopw [47] (fun i wr => ∃ (j : Nat) (m : List UInt8), j ≤ ats.length ∧ i = .int .i64 j ∧ m ++ atW (ats.drop j) = m4 ++ atW ats ∧ Wrt w0.heap.size b 0 m wr ∧ Below w0.heap.size w0 wr ∧ OthS b w wr) (fun i _ => ats.length - (intOf i).toNat)
  case atStart => exact ⟨0, m4, Nat.zero_le _, rfl, rfl, unhide HW4, unhide HB4, unhide HO4⟩
  case round =>
    clear HB4 HO4 HW4
    obtain ⟨j, m, hj, rfl, hm, hwr, hbw, how⟩ := hrel
    by_cases hp : j < ats.length
    · have hpi : (j : Int) < (ats.length : Int) := by omega
      rcases unhide HSL wr hbw with h0 | ⟨ga, oa, hqa, hcl⟩
      · rw [h0] at hp; simp at hp
      subst hqa
      obtain ⟨c1, c2⟩ := hcl j hp
      obtain ⟨z1, z2⟩ := (unhide HFT).2 j hp
      rw [atW_drop ats j hp] at hm
      have hml := congrArg List.length hm
      simp only [List.length_append] at hml
      have CT1 := hide (fun (W : World) (h1 : Wrt w0.heap.size b 0 m W) (h2 : Below w0.heap.size w0 W) => wtext_any w0.heap.size b 0 m (an ats j) W h1 (by omega) (by omega) h2.size)
      have CT2 := hide (fun (W : World) (h1 : Wrt w0.heap.size b 0 (m ++ tb (an ats j)) W) (h2 : Below w0.heap.size w0 W) => wtext_any w0.heap.size b 0 (m ++ tb (an ats j)) (av ats j) W h1 (by omega) (by rw [List.length_append]; omega) h2.size)
      have HM : Hid (((m ++ tb (an ats j)) ++ tb (av ats j)) ++ atW (ats.drop (j + 1)) = m4 ++ atW ats) := hide (by rw [← hm]; simp only [List.append_assoc])
      have hbA := (Below.refl wr.heap.size wr).alloc (Nat.le_refl _) (Obj.cells #[.string (an ats j), .string (av ats j)] 55)
      have hblk := Blk.new wr #[.string (an ats j), .string (av ats j)] 55
      have hwA := wrt_below hwr hbA
      have hBA : Below w0.heap.size w0 (wr.alloc (Obj.cells #[.string (an ats j), .string (av ats j)] 55)) := tr2 hbw hbA
      have hbb : b < wr.heap.size := by
        obtain ⟨p, v, hp, hB, hbk, _⟩ := wrt_any hwr
        exact (Array.getElem?_eq_some_iff.1 hbk).1
      have CT1' := hide (unhide CT1 _ hwA hBA)
      have HX := hide (And.intro hblk (And.intro hBA (how.alloc (Obj.cells #[.string (an ats j), .string (av ats j)] 55))))
      generalize an ats j = x at *
      generalize av ats j = y at *
      clear hm hml hwr hbw how hcl hbA hblk hwA hBA z1 z2 CT1
      go_wp2_with fail
      refine (unhide CT1').mono ?_
      rintro e w5 ⟨rfl, h5, hb5, ho5⟩
      have hB5 := (unhide HX).2.1.trans hb5
      have hO5 := (unhide HX).2.2.trans ho5
      have hblk5 : Blk w5 wr.heap.size #[.string x, .string y] 55 := ho5.1 _ _ (unhide HX).1 (fun e => by injection e with e; omega) (fun c fz e => by injection e with _ e; revert e; decide)
      have k1 : w5.cell? ⟨wr.heap.size, 1, none⟩ = some (.string y) := hblk5.cell 1
      have CT2' := hide (unhide CT2 w5 h5 hB5)
      have HX5 := hide (And.intro hB5 hO5)
      clear CT1' CT2 h5 hb5 ho5 hB5 hO5 hblk5 HX c1 c2
      go_wp2_with fail
      refine (unhide CT2').mono ?_
      rintro e w6 ⟨rfl, h6, hb6, ho6⟩
      have HX6 := hide (And.intro h6 (And.intro ((unhide HX5).1.trans hb6) ((unhide HX5).2.trans ho6)))
      clear CT2' h6 hb6 ho6 HX5 k1
      go_wp2
      go_roundw
      case rel => exact ⟨j + 1, _, by omega, by go_num, unhide HM, unhide HX6⟩
      case measure => simp [intOf]; omega
    · have hpi : ¬ (j : Int) < (ats.length : Int) := by omega
      rw [List.drop_eq_nil_of_le (by omega), atW, List.append_nil] at hm
      subst hm
      have CK1 := hide (unhide CK wr hwr hbw)
      obtain ⟨d0, d1, d2, d3, d5⟩ := unhide HL wr hbw
      have HX := hide (And.intro hbw how)
      clear hwr hbw how CK d0 d1 d2 d3 hp
      go_wp2_with fail
      refine (unhide CK1).mono ?_
      rintro e w5 ⟨rfl, h5, hb5, ho5⟩
      have HY : Hid (WrN w0 b w (m4 ++ atW ats ++ numW kl) w5) := hide ⟨h5, (unhide HX).1.trans hb5, (unhide HX).2.trans ho5⟩
      clear CK1 h5 hb5 ho5 HX d5
      go_wp2
      refine bodyPost_end (v := .tuple #[]) (results_none Tryd.results58 _ _ _) rfl ?_
      exact ⟨rfl, unhide HY⟩
end Go.Proofs.YtpfnjgkfombmpaaDoor
