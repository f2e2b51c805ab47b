/-
  What a list's own does of an entry with one attribute; Last.
-/
import Derived.Test.YtabajhbghjfhoaaAIs
namespace Go.Proofs.Ytabajhbghjfhoaa
open Go.RowKit
set_option linter.unusedVariables false
set_option linter.unusedSimpArgs false

theorem infoT0 : (Try.prog.info? 108).map (fun i => (i.zero, i.size, i.bytes)) = some (some (.agg #[.string ⟨#[]⟩, .string ⟨#[]⟩]), 2, 32) := by kernel_rfl
theorem infoT : ∃ i, Try.prog.info? 108 = some i ∧ i.zero = some (.agg #[.string ⟨#[]⟩, .string ⟨#[]⟩]) ∧ i.size = 2 ∧ i.bytes = 32 := by
  have h := infoT0
  cases hi : Try.prog.info? 108 with
  | none => rw [hi] at h; cases h
  | some i =>
    rw [hi] at h
    simp only [Option.map_some, Option.some.injEq, Prod.mk.injEq] at h
    exact ⟨i, rfl, h.1, h.2.1, h.2.2⟩
/-- A block that holds one attribute at its head. -/
def At1 (w : World) (g : Nat) (s t : ByteArray) : Prop := ∃ cur, Blk w g cur 108 ∧ cur[0]? = some (.string s) ∧ cur[1]? = some (.string t)
theorem At1.c0 {w : World} {g : Nat} {s t : ByteArray} (h : At1 w g s t) : w.cell? ⟨g, 0, none⟩ = some (.string s) := by obtain ⟨cur, hb, h0, _⟩ := h; exact (hb.cell 0).trans h0
theorem At1.c1 {w : World} {g : Nat} {s t : ByteArray} (h : At1 w g s t) : w.cell? ⟨g, 1, none⟩ = some (.string t) := by obtain ⟨cur, hb, _, h1⟩ := h; exact (hb.cell 1).trans h1
theorem At1.f1 {w : World} {g : Nat} {s t : ByteArray} (h : At1 w g s t) : w.frozen? ⟨g, 1, none⟩ = false := by obtain ⟨cur, hb, _, _⟩ := h; exact hb.frozen 1
theorem At1.lt {w : World} {g : Nat} {s t : ByteArray} (h : At1 w g s t) : g < w.heap.size := by obtain ⟨cur, hb, _, _⟩ := h; exact hb.lt
theorem At1.later {w w' : World} {g : Nat} {s t : ByteArray} (h : At1 w g s t) (hb : Below w.heap.size w w') : At1 w' g s t := by obtain ⟨cur, h1, h2⟩ := h; exact ⟨cur, h1.later hb, h2⟩
theorem At1.away {w : World} {g : Nat} {s t : ByteArray} (h : At1 w g s t) {b o : Nat} (hb : g ≠ b) (u : Value) : At1 (w.setCell ⟨b, o, none⟩ u) g s t := by obtain ⟨cur, h1, h2⟩ := h; exact ⟨cur, h1.away hb u, h2⟩
theorem At1.tch {w w' : World} {g p : Nat} {o : Option Nat} {s t : ByteArray} (h : At1 w g s t) (ht : Tch p o w w') (h1 : g ≠ p) (h2 : some g ≠ o) : At1 w' g s t := by obtain ⟨cur, hb, h3⟩ := h; exact ⟨cur, ht.blk hb h1 h2, h3⟩

set_option maxHeartbeats 1000000 in
set_option maxRecDepth 100000 in
theorem cloneA_one (g c : Nat) (s t : ByteArray) (w : World) (h : At1 w g s t) : Calls Try.prog 95 #[.slice (some ⟨g, 0, none⟩) 1 c] w fun e w' => ∃ g2 c2, e = .returned (.slice (some ⟨g2, 0, none⟩) 1 c2) ∧ At1 w' g2 s t ∧ w.heap.size ≤ g2 ∧ Below w.heap.size w w' := by
  obtain ⟨i0, hi0, hi1, hi2, hi3⟩ := infoT
  have hrow : (w.alloc (Obj.cells #[] 108)).ownsRow w.heap.size 108 2 (.slice (some ⟨w.heap.size, 0, none⟩) 0 0) 0 [] := World.ownsRow_made w #[] 0 (Nat.le_refl _) (by simp [maxLen]) rfl
  have b1 : Below w.heap.size w (w.alloc (Obj.cells #[] 108)) := (Below.refl _ _).alloc (Nat.le_refl _) _
  have HC : Hid (∀ j u, [Value.string s, .string t][j]? = some u → (w.alloc (Obj.cells #[] 108)).cell? ((⟨g, 0, none⟩ : Addr).add j) = some u) := hide fun j u hj => by
    rw [Addr.add_lit, Nat.zero_add]
    match j, hj with
    | 0, hj => simp at hj; rw [← hj]; exact (h.later b1).c0
    | 1, hj => simp at hj; rw [← hj]; exact (h.later b1).c1
  have HR := hide hrow
  clear hrow h b1
  have q22 : ∀ (w : World) (a : Option Addr) (n c n' c' : Nat), (binOp .eql 56 (.slice a n c) (.slice none n' c')).run Try.prog w = .ok (.bool a.isNone) w := fun w a n c n' c' => Lib.run_eql_slice_nil w _ _ a n c n' c' Try.underlying56
  go_enter Try.func95, Try.ntmps95
  go_wp2_with (at_builtin; refine wpList_append_own_at _ rfl _ _ 56 rfl w.heap.size 108 i0 (.agg #[.string ⟨#[]⟩, .string ⟨#[]⟩]) 2 32 Try.underlying56 hi0 hi1 hi2 hi3 rfl (by decide) _ 0 [] rfl (unhide HR) ⟨g, 0, none⟩ 1 c [.string s, .string t] rfl rfl (unhide HC) ?c2 ?c3 ?c4 ?c5 ?_)
  case c2 => simp [Value.oneCell']
  case c3 => simp only [maxLen]; omega
  case c4 => omega
  case c5 => simp
  intro v' w1 hown' hgrow _ hat
  rcases hown'.2 with ⟨rfl, h0⟩ | ⟨g2, c2, cur, rfl, hbg, hblk, _, _, _, htk⟩
  · omega
  have hA : Hid (At1 w1 g2 s t) := hide ⟨cur, hblk, by
      have := congrArg (fun l => l[0]?) htk
      simpa [List.getElem?_take] using this, by
      have := congrArg (fun l => l[1]?) htk
      simpa [List.getElem?_take] using this⟩
  have HG := hide hbg
  have HB := hide (((Below.refl w.heap.size w).alloc (Nat.le_refl _) (Obj.cells #[] 108)).grown hgrow (by simp) (fun k hk => by simp [Value.ownBlock] at hk; omega))
  clear hown' hgrow hat hblk htk hbg
  go_wp2
  go_ret
  exact ⟨g2, c2, rfl, unhide hA, unhide HG, unhide HB⟩
set_option maxHeartbeats 1000000 in
set_option maxRecDepth 100000 in
theorem own_one (xm : Bool) (xi : Int) (xn s t : ByteArray) (g c : Nat) (w : World) (h : At1 w g s t) : Calls Try.prog 68 #[.agg #[.bool xm, .int .i64 xi, .string xn, .slice (some ⟨g, 0, none⟩) 1 c]] w fun e w' => ∃ g2 c2, e = .returned (.agg #[.bool xm, .int .i64 xi, .string xn, .slice (some ⟨g2, 0, none⟩) 1 c2]) ∧ At1 w' g2 s t ∧ w.heap.size ≤ g2 ∧ Below w.heap.size w w' := by
  have b2 : Below w.heap.size w ((w.alloc (Obj.cells #[.bool xm, .int .i64 xi, .string xn, .slice (some ⟨g, 0, none⟩) 1 c] 58)).alloc (Obj.cells #[.bool false, .int .i64 0, .string ⟨#[]⟩, .slice none 0 0] 58)) := ((Below.refl w.heap.size w).alloc (Nat.le_refl _) _).alloc (by simp) _
  have C := hide (cloneA_one g c s t _ (h.later b2))
  have HB := hide b2
  have K0 : Hid (Blk ((w.alloc (Obj.cells #[.bool xm, .int .i64 xi, .string xn, .slice (some ⟨g, 0, none⟩) 1 c] 58)).alloc (Obj.cells #[.bool false, .int .i64 0, .string ⟨#[]⟩, .slice none 0 0] 58)) w.heap.size #[.bool xm, .int .i64 xi, .string xn, .slice (some ⟨g, 0, none⟩) 1 c] 58) := hide ((Blk.new w _ _).alloc _)
  have K1 : Hid (Blk ((w.alloc (Obj.cells #[.bool xm, .int .i64 xi, .string xn, .slice (some ⟨g, 0, none⟩) 1 c] 58)).alloc (Obj.cells #[.bool false, .int .i64 0, .string ⟨#[]⟩, .slice none 0 0] 58)) (w.heap.size + 1) #[.bool false, .int .i64 0, .string ⟨#[]⟩, .slice none 0 0] 58) := by
    have h1 := Blk.new (w.alloc (Obj.cells #[.bool xm, .int .i64 xi, .string xn, .slice (some ⟨g, 0, none⟩) 1 c] 58)) #[.bool false, .int .i64 0, .string ⟨#[]⟩, .slice none 0 0] 58
    rw [show (w.alloc (Obj.cells #[.bool xm, .int .i64 xi, .string xn, .slice (some ⟨g, 0, none⟩) 1 c] 58)).heap.size = w.heap.size + 1 by simp] at h1
    exact h1
  clear h b2
  go_enter Try.func68, Try.ntmps68
  go_wp2_with fail
  refine (unhide C).mono ?_
  rintro e w1 ⟨g2, c2, rfl, hA, hg2, hb⟩
  have hg2' : w.heap.size + 1 + 1 ≤ g2 := by simpa using hg2
  have k0 := (unhide K0).later hb
  have k1 := (unhide K1).later hb
  have HB1 := hide ((unhide HB).trans (hb.mono (unhide HB).size))
  have c0 : w1.cell? ⟨w.heap.size, 0, none⟩ = some (.bool xm) := k0.cell 0
  have c1 : w1.cell? ⟨w.heap.size, 1, none⟩ = some (.int .i64 xi) := k0.cell 1
  have c2' : w1.cell? ⟨w.heap.size, 2, none⟩ = some (.string xn) := k0.cell 2
  have c3 : w1.cell? ⟨w.heap.size, 3, none⟩ = some (.slice (some ⟨g, 0, none⟩) 1 c) := k0.cell 3
  have f3 : w1.frozen? ⟨w.heap.size, 3, none⟩ = false := k0.frozen 3
  have r0 : w1.cell? ⟨w.heap.size + 1, 0, none⟩ = some (.bool false) := k1.cell 0
  have r1 : w1.cell? ⟨w.heap.size + 1, 1, none⟩ = some (.int .i64 0) := k1.cell 1
  have r2 : w1.cell? ⟨w.heap.size + 1, 2, none⟩ = some (.string ⟨#[]⟩) := k1.cell 2
  have r3 : w1.cell? ⟨w.heap.size + 1, 3, none⟩ = some (.slice none 0 0) := k1.cell 3
  have e0 : w1.frozen? ⟨w.heap.size + 1, 0, none⟩ = false := k1.frozen 0
  have e1 : w1.frozen? ⟨w.heap.size + 1, 1, none⟩ = false := k1.frozen 1
  have e2 : w1.frozen? ⟨w.heap.size + 1, 2, none⟩ = false := k1.frozen 2
  have e3 : w1.frozen? ⟨w.heap.size + 1, 3, none⟩ = false := k1.frozen 3
  have HA := hide hA
  have kF := hide ((((((k1.away (b' := w.heap.size) (o := 3) (by omega) (.slice (some ⟨g2, 0, none⟩) 1 c2)).set 0 (by simp) (.bool xm)).set 1 (by simp) (.int .i64 xi)).set 2 (by simp) (.string xn)).set 3 (by simp) (.slice (some ⟨g2, 0, none⟩) 1 c2)))
  clear hA hb k0 k1
  go_wp2
  have g0 := (unhide kF).cell 0
  have g1 := (unhide kF).cell 1
  have g2c := (unhide kF).cell 2
  have g3 := (unhide kF).cell 3
  refine bodyPost_ret (v := .agg #[.bool xm, .int .i64 xi, .string xn, .slice (some ⟨g2, 0, none⟩) 1 c2]) (by simp [results, Try.results68, go_sem, g0, g1, g2c, g3]) rfl ?_
  refine ⟨g2, c2, rfl, (((((unhide HA).away (by omega) _).away (by omega) _).away (by omega) _).away (by omega) _).away (by omega) _, by omega, (((((unhide HB1).setCell (by simp) _).setCell (by simp) _).setCell (by simp) _).setCell (by simp) _).setCell (by simp) _⟩
end Go.Proofs.Ytabajhbghjfhoaa
