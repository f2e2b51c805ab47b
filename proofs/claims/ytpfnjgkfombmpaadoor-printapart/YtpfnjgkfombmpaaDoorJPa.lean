/-
  What 'print.Lines' does; the one paragraph that every statement of layer 13 asks for.
-/
import Derived.Test.YtpfnjgkfombmpaaDoorMgT
import Derived.Test.YtpfnjgkfombmpaaDoorPTx
import Derived.Test.YtpfnjgkfombmpaaDoorYLg
namespace Go.Proofs.YtpfnjgkfombmpaaDoor
open Go.RowKit
set_option linter.unusedVariables false
set_option linter.unusedSimpArgs false

set_option maxHeartbeats 1000000 in
set_option maxRecDepth 100000 in
theorem plines_any (f : Forest) (q : Option Addr) (cap : Nat) (w : World) (ht : Tabs w) (hm : MxJ w) (hf : Fo q f w) (hs : SmF f) (hc : f.count ≤ 400000) :
    Calls Tryd.prog 24 #[.slice q f.len cap] w fun e w' => ∃ v, e = .returned v ∧ w'.ownsRow w.heap.size 9 1 v (lnF f 0).length ((lnF f 0).map Value.string) ∧ Below w.heap.size w w' := by
  have CG := hide (fun W v h => gather_any w ht hm w.heap.size (w.heap.size + 1) (Nat.le_refl _) (by omega) (by omega) f.count f (Nat.le_refl _) q cap 0 [] v W hf hs (by omega) (by simp; omega) h)
  simp only [List.nil_append] at CG
  have hbA := (Below.refl w.heap.size w).alloc (Nat.le_refl _) (Obj.cells #[.slice none 0 0] 36)
  have hz : (w.alloc (Obj.cells #[.slice none 0 0] 36)).heap.size = w.heap.size + 1 := by simp
  have hN := Blk.new (w.alloc (Obj.cells #[.slice none 0 0] 36)) #[.func (.func 47) #[] #[.pointer (some ⟨w.heap.size, 0, none⟩), .pointer (some ⟨w.heap.size + 1, 0, none⟩)]] 71
  rw [hz] at hN
  have hbB := tr2 hbA ((Below.refl _ (w.alloc (Obj.cells #[.slice none 0 0] 36))).alloc (Nat.le_refl _) (Obj.cells #[.func (.func 47) #[] #[.pointer (some ⟨w.heap.size, 0, none⟩), .pointer (some ⟨w.heap.size + 1, 0, none⟩)]] 71))
  have HX := hide (And.intro (LnAt.mk (base := w.heap.size) (xs := []) (v := .slice none 0 0) ((Blk.new w #[.slice none 0 0] 36).alloc _) (World.ownsRow_nil _ _ _ _) hN) hbB)
  generalize lnF f 0 = L at *
  clear hf hs ht hm hbA hbB hN hz
  go_enter Tryd.func24, Tryd.ntmps24
  go_wp2_with fail
  refine (unhide CG _ _ (unhide HX).1 (unhide HX).2).mono ?_
  rintro e w1 ⟨rfl, ⟨v, hI⟩, hb⟩
  have c0 : w1.cell? ⟨w.heap.size, 0, none⟩ = some v := hI.blk.cell 0
  have HR := hide (And.intro hI.row hb)
  obtain ⟨a5, c5, hv⟩ := slice_n hI.row
  subst hv
  clear hI hb CG HX
  go_wp2
  go_ret
  exact ⟨_, rfl, (unhide HR).1, (unhide HR).2⟩
theorem large13_any (f : Forest) (q : Option Addr) (cap : Nat) (w : World) (hf : Fo q f w) :
    Calls Tryd.prog 16 #[.slice q f.len cap] w fun e w' => e = .returned (.bool (lgT 1 f 800).1) ∧ Below w.heap.size w w' := by
  have CL := hide (large_any f.count f (Nat.le_refl _) 1 q cap w.heap.size 800 w (w.alloc (Obj.cells #[.int .i64 800] 45)) (by omega) (Nat.le_refl _) (by omega) hf ((Below.refl _ _).alloc (Nat.le_refl _) _) (Blk.new w _ _))
  rw [show ((1 : Nat) : Int) = 1 from rfl] at CL
  generalize lgT 1 f 800 = r at *
  generalize f.len = fl at *
  clear hf
  go_enter Tryd.func16, Tryd.ntmps16
  go_wp2_with fail
  refine (unhide CL).mono ?_
  rintro e w1 ⟨rfl, _, hb⟩
  go_wp2
  go_ret
  exact ⟨rfl, hb⟩
def fPk : Forest := .cons 2 0 ⟨#[]⟩ [] ⟨#[97, 60]⟩ .nil .nil
def fP : Forest := .cons 1 0 ⟨#[112]⟩ [] ⟨#[]⟩ fPk .nil
theorem sm_fP : SmF fP := ⟨⟨by decide, by decide, ⟨Nat.zero_le _, fun k hk => absurd hk (Nat.not_lt_zero k)⟩, by decide⟩, ⟨⟨by decide, by decide, ⟨Nat.zero_le _, fun k hk => absurd hk (Nat.not_lt_zero k)⟩, by decide⟩, trivial, trivial⟩, trivial⟩
theorem tx_fP : txF fP false = [60, 112, 62, 97, 38, 108, 116, 59, 60, 47, 112, 62] := by decide +kernel
theorem ln_fP : lnF fP 0 = [⟨#[60, 112, 62]⟩, ⟨#[32, 97, 60]⟩] := by
  show [bs (spL 0 ++ lnL 1 [112] [] []), bs (spL 1 ++ lnL 2 [] [] [97, 60])] = _
  rw [show spL 0 ++ lnL 1 [112] [] [] = [60, 112, 62] by decide +kernel, show spL 1 ++ lnL 2 [] [] [97, 60] = [32, 97, 60] by decide +kernel]
  rfl
theorem op_fP : opL 1 [112] [] = [60, 112, 62] := by decide +kernel
set_option maxHeartbeats 1000000 in
set_option maxRecDepth 100000 in
theorem para_any (w : World) (ht : Tabs w) (hm : MxJ w) : Calls Tryd.prog 17 #[] w fun e w' => e = .returned (.bool true) ∧ Below w.heap.size w w' := by
  have hbA := (Below.refl w.heap.size w).alloc (Nat.le_refl _) (Obj.cells #[.int .i64 2, .int .i64 0, .string ⟨#[]⟩, .slice none 0 0, .string ⟨#[97, 60]⟩, .slice none 0 0] 31)
  have hA := Blk.new w #[.int .i64 2, .int .i64 0, .string ⟨#[]⟩, .slice none 0 0, .string ⟨#[97, 60]⟩, .slice none 0 0] 31
  have hlk : Lies fPk w.heap.size 0 (w.alloc (Obj.cells #[.int .i64 2, .int .i64 0, .string ⟨#[]⟩, .slice none 0 0, .string ⟨#[97, 60]⟩, .slice none 0 0] 31)) := ⟨⟨hA.cell 0, hA.cell 1, hA.cell 2, ⟨none, 0, hA.cell 3, .inl rfl⟩, hA.cell 4, ⟨none, 0, hA.cell 5, Nat.le_refl _, .inl rfl⟩⟩, trivial⟩
  have hz : (w.alloc (Obj.cells #[.int .i64 2, .int .i64 0, .string ⟨#[]⟩, .slice none 0 0, .string ⟨#[97, 60]⟩, .slice none 0 0] 31)).heap.size = w.heap.size + 1 := by simp
  have hbB := (Below.refl _ (w.alloc (Obj.cells #[.int .i64 2, .int .i64 0, .string ⟨#[]⟩, .slice none 0 0, .string ⟨#[97, 60]⟩, .slice none 0 0] 31))).alloc (Nat.le_refl _) (Obj.cells #[.int .i64 1, .int .i64 0, .string ⟨#[112]⟩, .slice none 0 0, .string ⟨#[]⟩, .slice (some ⟨w.heap.size, 0, none⟩) 1 1] 31)
  have hB := Blk.new (w.alloc (Obj.cells #[.int .i64 2, .int .i64 0, .string ⟨#[]⟩, .slice none 0 0, .string ⟨#[97, 60]⟩, .slice none 0 0] 31)) #[.int .i64 1, .int .i64 0, .string ⟨#[112]⟩, .slice none 0 0, .string ⟨#[]⟩, .slice (some ⟨w.heap.size, 0, none⟩) 1 1] 31
  rw [hz] at hB
  have hlp : Lies fP (w.heap.size + 1) 0 ((w.alloc (Obj.cells #[.int .i64 2, .int .i64 0, .string ⟨#[]⟩, .slice none 0 0, .string ⟨#[97, 60]⟩, .slice none 0 0] 31)).alloc (Obj.cells #[.int .i64 1, .int .i64 0, .string ⟨#[112]⟩, .slice none 0 0, .string ⟨#[]⟩, .slice (some ⟨w.heap.size, 0, none⟩) 1 1] 31)) := ⟨⟨hB.cell 0, hB.cell 1, hB.cell 2, ⟨none, 0, hB.cell 3, .inl rfl⟩, hB.cell 4, ⟨some ⟨w.heap.size, 0, none⟩, 1, hB.cell 5, Nat.le_refl _, .inr ⟨w.heap.size, 0, rfl, hlk.below hbB _ _ _⟩⟩⟩, trivial⟩
  have HX := hide (And.intro hlp (And.intro hB (tr2 hbA hbB)))
  have CT := hide (fun (W : World) (h1 : Lies fP (w.heap.size + 1) 0 W) (h2 : Below w.heap.size w W) => ptext_any fP (some ⟨w.heap.size + 1, 0, none⟩) 1 W (ht.below h2) (.inr ⟨_, _, rfl, h1⟩) sm_fP (by decide) (by decide))
  have CZ := hide (fun (W : World) (h1 : Lies fP (w.heap.size + 1) 0 W) (h2 : Below w.heap.size w W) => psize_any fP (some ⟨w.heap.size + 1, 0, none⟩) 1 W (ht.below h2) (.inr ⟨_, _, rfl, h1⟩) sm_fP (by decide) (by decide))
  have CO := hide (fun (W : World) (h2 : Below w.heap.size w W) => jopen_any 1 0 ⟨#[112]⟩ [] ⟨#[]⟩ none (some ⟨w.heap.size, 0, none⟩) 0 1 1 W (ht.below h2) (.inl rfl) ⟨Nat.zero_le _, fun k hk => absurd hk (Nat.not_lt_zero k)⟩ (by decide))
  have CL := hide (fun (W : World) (h1 : Lies fP (w.heap.size + 1) 0 W) (h2 : Below w.heap.size w W) => plines_any fP (some ⟨w.heap.size + 1, 0, none⟩) 1 W (ht.below h2) (hm.below h2) (.inr ⟨_, _, rfl, h1⟩) sm_fP (by decide))
  have CX := hide (fun v v' W h h' => texts_any v v' [⟨#[60, 112, 62]⟩, ⟨#[32, 97, 60]⟩] [⟨#[60, 112, 62]⟩, ⟨#[32, 97, 60]⟩] W h h')
  rw [sameT_refl] at CX
  rw [tx_fP, show fP.len = 1 from rfl, show bs [60, 112, 62, 97, 38, 108, 116, 59, 60, 47, 112, 62] = ⟨#[60, 112, 62, 97, 38, 108, 116, 59, 60, 47, 112, 62]⟩ from rfl] at CT
  rw [tx_fP, show fP.len = 1 from rfl] at CZ
  simp only [List.length_cons, List.length_nil] at CZ
  rw [show opL 1 (⟨#[112]⟩ : ByteArray).data.toList [] = [60, 112, 62] from op_fP, show bs [60, 112, 62] = ⟨#[60, 112, 62]⟩ from rfl] at CO
  simp only [List.length_nil] at CO
  rw [ln_fP, show fP.len = 1 from rfl] at CL
  clear hbA hA hlk hz hbB hB hlp ht hm
  go_enter Tryd.func17, Tryd.ntmps17
  go_wp2_with fail
  refine calls_from (fun W => Lies fP (w.heap.size + 1) 0 W ∧ Blk W (w.heap.size + 1) #[.int .i64 1, .int .i64 0, .string ⟨#[112]⟩, .slice none 0 0, .string ⟨#[]⟩, .slice (some ⟨w.heap.size, 0, none⟩) 1 1] 31 ∧ Below w.heap.size w W) (unhide HX) ?_
  rintro w1 ⟨h1, k1, b1⟩
  clear HX
  refine (unhide CT w1 h1 b1).mono ?_
  rintro e w2 ⟨rfl, hb⟩
  have H2 := hide (And.intro (h1.below hb _ _ _) (And.intro (k1.later hb) (tr2 b1 hb)))
  clear CT h1 k1 b1 hb
  have C2 := hide (unhide CZ w2 (unhide H2).1 (unhide H2).2.2)
  clear CZ
  go_wp2_with fail
  refine (unhide C2).mono ?_
  rintro e w3 ⟨rfl, hb⟩
  have H3 := hide (And.intro ((unhide H2).1.below hb _ _ _) (And.intro ((unhide H2).2.1.later hb) (tr2 (unhide H2).2.2 hb)))
  clear C2 H2 hb
  have C3 := hide (unhide CO w3 (unhide H3).2.2)
  have d0 := (unhide H3).2.1.cell 0
  have d1 := (unhide H3).2.1.cell 1
  have d2 := (unhide H3).2.1.cell 2
  have d3 := (unhide H3).2.1.cell 3
  have d4 := (unhide H3).2.1.cell 4
  have d5 := (unhide H3).2.1.cell 5
  simp only [List.getElem?_toArray, List.getElem?_cons_zero, List.getElem?_cons_succ] at d0 d1 d2 d3 d4 d5
  clear CO
  go_wp2_with fail
  refine (unhide C3).mono ?_
  rintro e w4 ⟨rfl, hb⟩
  have H4 := hide (And.intro ((unhide H3).1.below hb _ _ _) (tr2 (unhide H3).2.2 hb))
  clear C3 H3 hb d0 d1 d2 d3 d4 d5
  have C4 := hide (unhide CL w4 (unhide H4).1 (unhide H4).2)
  clear CL
  go_wp2_with fail
  refine (unhide C4).mono ?_
  rintro e w5 ⟨v, rfl, hrow, hb⟩
  have hbC := (Below.refl w5.heap.size w5).alloc (Nat.le_refl _) (Obj.cells #[.string ⟨#[60, 112, 62]⟩, .string ⟨#[32, 97, 60]⟩] 9)
  have C5 := hide (unhide CX v (.slice (some ⟨w5.heap.size, 0, none⟩) 2 2) _ (view_below (view_of_owns hrow) hbC) (view_lit w5 [[60, 112, 62], [32, 97, 60]] 9 (by decide) 2 rfl))
  have H5 := hide (tr2 (tr2 (unhide H4).2 hb) hbC)
  obtain ⟨a5, c5, hv⟩ := slice_n hrow
  subst hv
  clear C4 H4 hb hbC hrow CX
  go_wp2_with fail
  refine (unhide C5).mono ?_
  rintro e w6 ⟨rfl, hb⟩
  have H6 := hide (tr2 (unhide H5) hb)
  clear C5 hb H5
  go_wp2
  go_ret
  exact ⟨rfl, unhide H6⟩
end Go.Proofs.YtpfnjgkfombmpaaDoor
