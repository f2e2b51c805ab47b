/-
  What a tree.reader's num and text take off, where there is such a one.
-/
import Derived.Test.YtpfnjgkfombmpaaDoorYBy
import Derived.Test.YtpfnjgkfombmpaaDoorMgI
namespace Go.Proofs.YtpfnjgkfombmpaaDoor
open Go.RowKit
set_option linter.unusedVariables false
set_option linter.unusedSimpArgs false

def Rdr (R : Nat) (s : ByteArray) (m : Int) (b : Bool) (w : World) : Prop := Blk w R #[.string s, .int .i64 m, .bool b] 83
/-- All but block R stands as it stood. -/
structure KpR (R : Nat) (w w' : World) : Prop where
  os : w'.os = w.os
  tape : w'.tape = w.tape
  output : w'.output = w.output
  size : w.heap.size ≤ w'.heap.size
  block : ∀ k, k < w.heap.size → k ≠ R → w'.heap[k]? = w.heap[k]?
theorem KpR.refl (R : Nat) (w : World) : KpR R w w := ⟨rfl, rfl, rfl, Nat.le_refl _, fun _ _ _ => rfl⟩
theorem KpR.trans {R : Nat} {w w1 w2 : World} (h : KpR R w w1) (h' : KpR R w1 w2) : KpR R w w2 :=
  ⟨h'.os.trans h.os, h'.tape.trans h.tape, h'.output.trans h.output, Nat.le_trans h.size h'.size, fun k hk hr => (h'.block k (by have := h.size; omega) hr).trans (h.block k hk hr)⟩
theorem KpR.of {R : Nat} {w w1 : World} (h : Below w.heap.size w w1) : KpR R w w1 := ⟨h.os, h.tape, h.output, h.size, fun k hk _ => h.block k hk⟩
theorem KpR.set {R : Nat} {w w1 : World} (h : KpR R w w1) (o : Nat) (v : Value) : KpR R w (w1.setCell ⟨R, o, none⟩ v) :=
  ⟨h.os, h.tape, h.output, by have := h.size; simp; omega, fun k hk hr => (Below.heap_setCell w1 ⟨R, o, none⟩ v k (by show k ≠ R; exact hr)).trans (h.block k hk hr)⟩
theorem KpR.setAt {R b : Nat} {w w1 : World} (h : KpR R w w1) (hb : w.heap.size ≤ b) (o : Nat) (v : Value) : KpR R w (w1.setCell ⟨b, o, none⟩ v) :=
  ⟨h.os, h.tape, h.output, by have := h.size; simp; omega, fun k hk hr => (Below.heap_setCell w1 ⟨b, o, none⟩ v k (by show k ≠ b; omega)).trans (h.block k hk hr)⟩
theorem KpR.alloc {R : Nat} {w w1 : World} (h : KpR R w w1) (o : Obj) : KpR R w (w1.alloc o) :=
  h.trans (KpR.of ((Below.refl _ _).alloc (Nat.le_refl _) o))
theorem KpR.below {R B : Nat} {w w1 : World} (h : KpR R w w1) (hB : B ≤ w.heap.size) (hR : B ≤ R) : Below B w w1 := ⟨h.os, h.tape, h.output, h.size, fun k hk => h.block k (by omega) (by omega)⟩
theorem KpR.blk {R b : Nat} {w w1 : World} {vs : Array Value} {t : TypeId} (h : KpR R w w1) (hb : Blk w b vs t) (hr : b ≠ R) : Blk w1 b vs t := (h.block b hb.lt hr).trans hb

set_option maxHeartbeats 2000000 in
theorem rnum_ok (R : Nat) (s : ByteArray) (m most v : Int) (k : Nat) (b : Bool) (w : World) (h : Rdr R s m b w) (hs : s.size ≤ 1000000000000) (ht : takeN s.data.toList = some (v, k)) (hv : v ≤ most) :
    Calls Tryd.prog 87 #[.pointer (some ⟨R, 0, none⟩), .int .i64 most] w fun e w' => e = .returned (.int .i64 v) ∧ Rdr R (bs (s.data.toList.drop k)) m b w' ∧ KpR R w w' := by
  have C := takeNum_any s w (by omega)
  rw [show takeNV s.data.toList = .tuple #[.int .i64 v, .string (bs (s.data.toList.drop k)), .int .i64 0] by unfold takeNV; rw [ht]] at C
  have HC := hide C
  have c0 : w.cell? ⟨R, 0, none⟩ = some (.string s) := h.cell 0
  have HR := hide h
  have hvi : ¬ most < v := by omega
  generalize bs (s.data.toList.drop k) = z at *
  clear C h ht hv
  go_enter Tryd.func87, Tryd.ntmps87
  go_wp2_with fail
  refine (unhide HC).mono ?_
  rintro e w1 ⟨rfl, hb⟩
  have h1 : Rdr R s m b w1 := Blk.later (unhide HR) hb
  have f0 : w1.frozen? ⟨R, 0, none⟩ = false := h1.frozen 0
  have d0 : w1.cell? ⟨R, 0, none⟩ = some (.string s) := h1.cell 0
  have HX : Hid (Rdr R z m b (w1.setCell ⟨R, 0, none⟩ (.string z)) ∧ KpR R w (w1.setCell ⟨R, 0, none⟩ (.string z))) := hide ⟨Blk.set (vs := #[.string s, .int .i64 m, .bool b]) h1 0 (by simp) _, (KpR.of hb).set 0 _⟩
  clear HC hb h1 HR c0
  go_wp2
  go_ret
  exact ⟨rfl, unhide HX⟩
set_option maxHeartbeats 2000000 in
theorem rtext_ok (R : Nat) (s : ByteArray) (m : Int) (k n : Nat) (b : Bool) (w : World) (h : Rdr R s m b w) (hs : s.size ≤ 1000000000000) (ht : takeT s.data.toList = some (k, n)) :
    Calls Tryd.prog 109 #[.pointer (some ⟨R, 0, none⟩)] w fun e w' => e = .returned (.string (bs ((s.data.toList.drop k).take n))) ∧ Rdr R (bs ((s.data.toList.drop k).drop n)) m b w' ∧ KpR R w w' := by
  have C := takeText_any s w (by omega)
  rw [show takeTV s.data.toList = .tuple #[.string (bs ((s.data.toList.drop k).take n)), .string (bs ((s.data.toList.drop k).drop n)), .int .i64 0] by unfold takeTV; rw [ht]] at C
  have HC := hide C
  have c0 : w.cell? ⟨R, 0, none⟩ = some (.string s) := h.cell 0
  have HR := hide h
  generalize bs ((s.data.toList.drop k).drop n) = z at *
  generalize bs ((s.data.toList.drop k).take n) = y at *
  clear C h ht
  go_enter Tryd.func109, Tryd.ntmps109
  go_wp2_with fail
  refine (unhide HC).mono ?_
  rintro e w1 ⟨rfl, hb⟩
  have h1 : Rdr R s m b w1 := Blk.later (unhide HR) hb
  have f0 : w1.frozen? ⟨R, 0, none⟩ = false := h1.frozen 0
  have d0 : w1.cell? ⟨R, 0, none⟩ = some (.string s) := h1.cell 0
  have HX : Hid (Rdr R z m b (w1.setCell ⟨R, 0, none⟩ (.string z)) ∧ KpR R w (w1.setCell ⟨R, 0, none⟩ (.string z))) := hide ⟨Blk.set (vs := #[.string s, .int .i64 m, .bool b]) h1 0 (by simp) _, (KpR.of hb).set 0 _⟩
  clear HC hb h1 HR c0
  go_wp2
  go_ret
  exact ⟨rfl, unhide HX⟩
set_option maxHeartbeats 1000000 in
set_option maxRecDepth 100000 in
theorem rnode_text (R : Nat) (s : ByteArray) (m d : Int) (k : Nat) (k2 n2 : Nat) (w : World) (h : Rdr R s m false w) (hs : s.size ≤ 1000000000000) (ht : takeN s.data.toList = some (2, k)) (ht2 : takeT (s.data.toList.drop k) = some (k2, n2)) :
    Calls Tryd.prog 89 #[.pointer (some ⟨R, 0, none⟩), .int .i64 d] w fun e w' => e = .returned (.agg #[.int .i64 2, .int .i64 0, .string ⟨#[]⟩, .slice none 0 0, .string (bs (((s.data.toList.drop k).drop k2).take n2)), .slice none 0 0]) ∧ Rdr R (bs (((s.data.toList.drop k).drop k2).drop n2)) m false w' ∧ KpR R w w' := by
  have hRl := h.lt
  have hb0 := Blk.new w #[.int .i64 0, .int .i64 0, .string ⟨#[]⟩, .slice none 0 0, .string ⟨#[]⟩, .slice none 0 0] 31
  have hk0 : KpR R w (w.alloc (Obj.cells #[.int .i64 0, .int .i64 0, .string ⟨#[]⟩, .slice none 0 0, .string ⟨#[]⟩, .slice none 0 0] 31)) := (KpR.refl R w).alloc _
  have CN := hide (rnum_ok R s m 3 2 k false (w.alloc (Obj.cells #[.int .i64 0, .int .i64 0, .string ⟨#[]⟩, .slice none 0 0, .string ⟨#[]⟩, .slice none 0 0] 31)) (h.alloc _) hs ht (by omega))
  have CT := hide (fun (W : World) (hW : Rdr R (bs (s.data.toList.drop k)) m false W) => rtext_ok R (bs (s.data.toList.drop k)) m k2 n2 false W hW (by rw [bs_size, List.length_drop, Array.length_toList]; have : s.data.size = s.size := rfl; omega) (by rw [bs_toList]; exact ht2))
  rw [bs_toList] at CT
  generalize bs (((s.data.toList.drop k).drop k2).drop n2) = z at *
  generalize bs (((s.data.toList.drop k).drop k2).take n2) = y at *
  generalize bs (s.data.toList.drop k) = x at *
  have HX := hide (And.intro hb0 hk0)
  clear hb0 hk0 ht ht2 h hs
  go_enter Tryd.func89, Tryd.ntmps89
  go_wp2_with fail
  refine (unhide CN).mono ?_
  rintro e w1 ⟨rfl, h1, hk1⟩
  have hz1 : Blk w1 w.heap.size #[.int .i64 0, .int .i64 0, .string ⟨#[]⟩, .slice none 0 0, .string ⟨#[]⟩, .slice none 0 0] 31 := hk1.blk (unhide HX).1 (by omega)
  have hbn := Blk.new w1 #[.int .i64 2, .int .i64 0, .string ⟨#[]⟩, .slice none 0 0, .string ⟨#[]⟩, .slice none 0 0] 31
  have CT1 := hide (unhide CT (w1.alloc (Obj.cells #[.int .i64 2, .int .i64 0, .string ⟨#[]⟩, .slice none 0 0, .string ⟨#[]⟩, .slice none 0 0] 31)) (Blk.alloc h1 _))
  have HY := hide (And.intro (Blk.alloc hz1 (Obj.cells #[.int .i64 2, .int .i64 0, .string ⟨#[]⟩, .slice none 0 0, .string ⟨#[]⟩, .slice none 0 0] 31)) (And.intro hbn (((unhide HX).2.trans hk1).alloc (Obj.cells #[.int .i64 2, .int .i64 0, .string ⟨#[]⟩, .slice none 0 0, .string ⟨#[]⟩, .slice none 0 0] 31))))
  have hR1 : R < w1.heap.size := by have := hk1.size; simp at this; omega
  have hw1 : w.heap.size < w1.heap.size := by have := hk1.size; simp at this; omega
  clear CN CT h1 hk1 hz1 hbn HX
  go_wp2_with fail
  refine (unhide CT1).mono ?_
  rintro e w2 ⟨rfl, h2, hk2⟩
  have hz2 := hk2.blk (unhide HY).1 (by omega)
  have hn2 := hk2.blk (unhide HY).2.1 (by omega)
  have HK := hide ((unhide HY).2.2.trans hk2)
  have HR2 := hide h2
  clear CT1 h2 hk2 HY
  have n0 : w2.cell? ⟨w1.heap.size, 0, none⟩ = some (.int .i64 2) := hn2.cell 0
  have n1 : w2.cell? ⟨w1.heap.size, 1, none⟩ = some (.int .i64 0) := hn2.cell 1
  have n2 : w2.cell? ⟨w1.heap.size, 2, none⟩ = some (.string ⟨#[]⟩) := hn2.cell 2
  have n3 : w2.cell? ⟨w1.heap.size, 3, none⟩ = some (.slice none 0 0) := hn2.cell 3
  have n4 : w2.cell? ⟨w1.heap.size, 4, none⟩ = some (.string ⟨#[]⟩) := hn2.cell 4
  have n5 : w2.cell? ⟨w1.heap.size, 5, none⟩ = some (.slice none 0 0) := hn2.cell 5
  have z0 : w2.cell? ⟨w.heap.size, 0, none⟩ = some (.int .i64 0) := hz2.cell 0
  have zf0 : w2.frozen? ⟨w.heap.size, 0, none⟩ = false := hz2.frozen 0
  have z1 : w2.cell? ⟨w.heap.size, 1, none⟩ = some (.int .i64 0) := hz2.cell 1
  have zf1 : w2.frozen? ⟨w.heap.size, 1, none⟩ = false := hz2.frozen 1
  have z2 : w2.cell? ⟨w.heap.size, 2, none⟩ = some (.string ⟨#[]⟩) := hz2.cell 2
  have zf2 : w2.frozen? ⟨w.heap.size, 2, none⟩ = false := hz2.frozen 2
  have z3 : w2.cell? ⟨w.heap.size, 3, none⟩ = some (.slice none 0 0) := hz2.cell 3
  have zf3 : w2.frozen? ⟨w.heap.size, 3, none⟩ = false := hz2.frozen 3
  have z4 : w2.cell? ⟨w.heap.size, 4, none⟩ = some (.string ⟨#[]⟩) := hz2.cell 4
  have zf4 : w2.frozen? ⟨w.heap.size, 4, none⟩ = false := hz2.frozen 4
  have z5 : w2.cell? ⟨w.heap.size, 5, none⟩ = some (.slice none 0 0) := hz2.cell 5
  have zf5 : w2.frozen? ⟨w.heap.size, 5, none⟩ = false := hz2.frozen 5
  have nf4 : w2.frozen? ⟨w1.heap.size, 4, none⟩ = false := hn2.frozen 4
  have hRZ : R ≠ w.heap.size := by omega
  have hRN : R ≠ w1.heap.size := by omega
  have hNZ : w1.heap.size ≠ w.heap.size := by omega
  have hZN : w.heap.size ≠ w1.heap.size := by omega
  have HSZ := hide (And.intro hRl (And.intro hR1 hw1))
  clear hRl hR1 hw1 hn2
  generalize hN : w1.heap.size = N at *
  generalize hZ : w.heap.size = Z at *
  have HNZ := hide (And.intro hN hZ)
  clear hN hZ
  have b0 : Blk (w2.setCell ⟨N, 4, none⟩ (.string y)) Z #[.int .i64 0, .int .i64 0, .string ⟨#[]⟩, .slice none 0 0, .string ⟨#[]⟩, .slice none 0 0] 31 := Blk.away hz2 hZN _
  have b1 : Blk ((w2.setCell ⟨N, 4, none⟩ (.string y)).setCell ⟨Z, 0, none⟩ (.int .i64 2)) Z #[.int .i64 2, .int .i64 0, .string ⟨#[]⟩, .slice none 0 0, .string ⟨#[]⟩, .slice none 0 0] 31 := Blk.set (vs := #[.int .i64 0, .int .i64 0, .string ⟨#[]⟩, .slice none 0 0, .string ⟨#[]⟩, .slice none 0 0]) b0 0 (by simp) _
  have r0 : ((w2.setCell ⟨N, 4, none⟩ (.string y)).setCell ⟨Z, 0, none⟩ (.int .i64 2)).cell? ⟨Z, 0, none⟩ = some (.int .i64 2) := b1.cell 0
  have b2 : Blk (((w2.setCell ⟨N, 4, none⟩ (.string y)).setCell ⟨Z, 0, none⟩ (.int .i64 2)).setCell ⟨Z, 1, none⟩ (.int .i64 0)) Z #[.int .i64 2, .int .i64 0, .string ⟨#[]⟩, .slice none 0 0, .string ⟨#[]⟩, .slice none 0 0] 31 := Blk.set (vs := #[.int .i64 2, .int .i64 0, .string ⟨#[]⟩, .slice none 0 0, .string ⟨#[]⟩, .slice none 0 0]) b1 1 (by simp) _
  have r1 : (((w2.setCell ⟨N, 4, none⟩ (.string y)).setCell ⟨Z, 0, none⟩ (.int .i64 2)).setCell ⟨Z, 1, none⟩ (.int .i64 0)).cell? ⟨Z, 1, none⟩ = some (.int .i64 0) := b2.cell 1
  have b3 : Blk ((((w2.setCell ⟨N, 4, none⟩ (.string y)).setCell ⟨Z, 0, none⟩ (.int .i64 2)).setCell ⟨Z, 1, none⟩ (.int .i64 0)).setCell ⟨Z, 2, none⟩ (.string ⟨#[]⟩)) Z #[.int .i64 2, .int .i64 0, .string ⟨#[]⟩, .slice none 0 0, .string ⟨#[]⟩, .slice none 0 0] 31 := Blk.set (vs := #[.int .i64 2, .int .i64 0, .string ⟨#[]⟩, .slice none 0 0, .string ⟨#[]⟩, .slice none 0 0]) b2 2 (by simp) _
  have r2 : ((((w2.setCell ⟨N, 4, none⟩ (.string y)).setCell ⟨Z, 0, none⟩ (.int .i64 2)).setCell ⟨Z, 1, none⟩ (.int .i64 0)).setCell ⟨Z, 2, none⟩ (.string ⟨#[]⟩)).cell? ⟨Z, 2, none⟩ = some (.string ⟨#[]⟩) := b3.cell 2
  have b4 : Blk (((((w2.setCell ⟨N, 4, none⟩ (.string y)).setCell ⟨Z, 0, none⟩ (.int .i64 2)).setCell ⟨Z, 1, none⟩ (.int .i64 0)).setCell ⟨Z, 2, none⟩ (.string ⟨#[]⟩)).setCell ⟨Z, 3, none⟩ (.slice none 0 0)) Z #[.int .i64 2, .int .i64 0, .string ⟨#[]⟩, .slice none 0 0, .string ⟨#[]⟩, .slice none 0 0] 31 := Blk.set (vs := #[.int .i64 2, .int .i64 0, .string ⟨#[]⟩, .slice none 0 0, .string ⟨#[]⟩, .slice none 0 0]) b3 3 (by simp) _
  have r3 : (((((w2.setCell ⟨N, 4, none⟩ (.string y)).setCell ⟨Z, 0, none⟩ (.int .i64 2)).setCell ⟨Z, 1, none⟩ (.int .i64 0)).setCell ⟨Z, 2, none⟩ (.string ⟨#[]⟩)).setCell ⟨Z, 3, none⟩ (.slice none 0 0)).cell? ⟨Z, 3, none⟩ = some (.slice none 0 0) := b4.cell 3
  have b5 : Blk ((((((w2.setCell ⟨N, 4, none⟩ (.string y)).setCell ⟨Z, 0, none⟩ (.int .i64 2)).setCell ⟨Z, 1, none⟩ (.int .i64 0)).setCell ⟨Z, 2, none⟩ (.string ⟨#[]⟩)).setCell ⟨Z, 3, none⟩ (.slice none 0 0)).setCell ⟨Z, 4, none⟩ (.string y)) Z #[.int .i64 2, .int .i64 0, .string ⟨#[]⟩, .slice none 0 0, .string y, .slice none 0 0] 31 := Blk.set (vs := #[.int .i64 2, .int .i64 0, .string ⟨#[]⟩, .slice none 0 0, .string ⟨#[]⟩, .slice none 0 0]) b4 4 (by simp) _
  have r4 : ((((((w2.setCell ⟨N, 4, none⟩ (.string y)).setCell ⟨Z, 0, none⟩ (.int .i64 2)).setCell ⟨Z, 1, none⟩ (.int .i64 0)).setCell ⟨Z, 2, none⟩ (.string ⟨#[]⟩)).setCell ⟨Z, 3, none⟩ (.slice none 0 0)).setCell ⟨Z, 4, none⟩ (.string y)).cell? ⟨Z, 4, none⟩ = some (.string y) := b5.cell 4
  have b6 : Blk (((((((w2.setCell ⟨N, 4, none⟩ (.string y)).setCell ⟨Z, 0, none⟩ (.int .i64 2)).setCell ⟨Z, 1, none⟩ (.int .i64 0)).setCell ⟨Z, 2, none⟩ (.string ⟨#[]⟩)).setCell ⟨Z, 3, none⟩ (.slice none 0 0)).setCell ⟨Z, 4, none⟩ (.string y)).setCell ⟨Z, 5, none⟩ (.slice none 0 0)) Z #[.int .i64 2, .int .i64 0, .string ⟨#[]⟩, .slice none 0 0, .string y, .slice none 0 0] 31 := Blk.set (vs := #[.int .i64 2, .int .i64 0, .string ⟨#[]⟩, .slice none 0 0, .string y, .slice none 0 0]) b5 5 (by simp) _
  have r5 : (((((((w2.setCell ⟨N, 4, none⟩ (.string y)).setCell ⟨Z, 0, none⟩ (.int .i64 2)).setCell ⟨Z, 1, none⟩ (.int .i64 0)).setCell ⟨Z, 2, none⟩ (.string ⟨#[]⟩)).setCell ⟨Z, 3, none⟩ (.slice none 0 0)).setCell ⟨Z, 4, none⟩ (.string y)).setCell ⟨Z, 5, none⟩ (.slice none 0 0)).cell? ⟨Z, 5, none⟩ = some (.slice none 0 0) := b6.cell 5
  have HE : Hid (Rdr R z m false (((((((w2.setCell ⟨N, 4, none⟩ (.string y)).setCell ⟨Z, 0, none⟩ (.int .i64 2)).setCell ⟨Z, 1, none⟩ (.int .i64 0)).setCell ⟨Z, 2, none⟩ (.string ⟨#[]⟩)).setCell ⟨Z, 3, none⟩ (.slice none 0 0)).setCell ⟨Z, 4, none⟩ (.string y)).setCell ⟨Z, 5, none⟩ (.slice none 0 0)) ∧ KpR R w (((((((w2.setCell ⟨N, 4, none⟩ (.string y)).setCell ⟨Z, 0, none⟩ (.int .i64 2)).setCell ⟨Z, 1, none⟩ (.int .i64 0)).setCell ⟨Z, 2, none⟩ (.string ⟨#[]⟩)).setCell ⟨Z, 3, none⟩ (.slice none 0 0)).setCell ⟨Z, 4, none⟩ (.string y)).setCell ⟨Z, 5, none⟩ (.slice none 0 0))) := hide ⟨Blk.away (Blk.away (Blk.away (Blk.away (Blk.away (Blk.away (Blk.away (unhide HR2) hRN _) hRZ _) hRZ _) hRZ _) hRZ _) hRZ _) hRZ _, KpR.setAt (KpR.setAt (KpR.setAt (KpR.setAt (KpR.setAt (KpR.setAt ((unhide HK).setAt (b := N) (by have h1 := (unhide HNZ).2; have h2 := (unhide HSZ).2.2; omega) 4 _) (b := Z) (Nat.le_of_eq (unhide HNZ).2) 0 _) (b := Z) (Nat.le_of_eq (unhide HNZ).2) 1 _) (b := Z) (Nat.le_of_eq (unhide HNZ).2) 2 _) (b := Z) (Nat.le_of_eq (unhide HNZ).2) 3 _) (b := Z) (Nat.le_of_eq (unhide HNZ).2) 4 _) (b := Z) (Nat.le_of_eq (unhide HNZ).2) 5 _⟩
  have HRS := hide (And.intro r0 (And.intro r1 (And.intro r2 (And.intro r3 (And.intro r4 r5)))))
  clear b0 b1 b2 b3 b4 b5 b6 hz2 r0 r1 r2 r3 r4 r5
  go_wp2
  obtain ⟨r0, r1, r2, r3, r4, r5⟩ := unhide HRS
  refine bodyPost_ret (v := .agg #[.int .i64 2, .int .i64 0, .string ⟨#[]⟩, .slice none 0 0, .string y, .slice none 0 0]) (by simp [results, Tryd.results89, go_sem, r0, r1, r2, r3, r4, r5]) rfl ?_
  exact ⟨rfl, unhide HE⟩
end Go.Proofs.YtpfnjgkfombmpaaDoor
