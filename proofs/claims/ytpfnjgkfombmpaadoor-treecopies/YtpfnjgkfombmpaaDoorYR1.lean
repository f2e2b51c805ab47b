/-
  The one text of rectolaw08.text: read off its bytes.
-/
import Derived.Test.YtpfnjgkfombmpaaDoorYRn
namespace Go.Proofs.YtpfnjgkfombmpaaDoor
open Go.RowKit
set_option linter.unusedVariables false
set_option linter.unusedSimpArgs false

def f1 : Forest := .cons 2 0 ⟨#[]⟩ [] ⟨#[97]⟩ .nil .nil
def s1b : ByteArray := ⟨#[1, 1, 1, 2, 1, 1, 97]⟩
theorem add_off (g j : Nat) : (⟨g, 0, none⟩ : Addr).add j = ⟨g, j, none⟩ := by unfold Addr.add; split <;> simp_all
theorem infoNode0 : (Tryd.prog.info? 31).map (fun i => (i.zero, i.size, i.bytes)) = some (some (.agg #[.int .i64 0, .int .i64 0, .string ⟨#[]⟩, .slice none 0 0, .string ⟨#[]⟩, .slice none 0 0]), 6, 96) := by kernel_rfl
theorem lit6 {X : World} {vs : Array Value} {t : TypeId} {j : Nat} {u : Value} (h : vs.toList[j]? = some u) : (X.alloc (.cells vs t)).cell? ((⟨X.heap.size, 0, none⟩ : Addr).add j) = some u := by
  rw [add_off]
  exact ((Blk.new X vs t).cell j).trans (by simpa using h)
theorem one_row {w : World} {base : Nat} {v : Value} {xs : List Value} (h : w.ownsRow base 31 6 v 1 xs) : ∃ g cap, v = .slice (some ⟨g, 0, none⟩) 1 cap ∧ 1 ≤ cap ∧ base ≤ g ∧ g < w.heap.size ∧ ∀ j u, xs[j]? = some u → w.cell? ⟨g, j, none⟩ = some u := by
  rcases h.2 with ⟨_, h0⟩ | ⟨g, cap, cur, rfl, h1, h2, h3, _⟩
  · cases h0
  · refine ⟨g, cap, rfl, h3, h1, (Array.getElem?_eq_some_iff.1 h2).1, fun j u hj => ?_⟩
    have := h.cells (g := g) rfl j u hj
    rw [add_off] at this
    exact this
set_option maxHeartbeats 2000000 in
set_option maxRecDepth 100000 in
theorem rlist_one (R : Nat) (w : World) (h : Rdr R s1b 0 false w) :
    Calls Tryd.prog 59 #[.pointer (some ⟨R, 0, none⟩), .int .i64 1] w fun e w' => ∃ g cap, e = .returned (.slice (some ⟨g, 0, none⟩) 1 cap) ∧ 1 ≤ cap ∧ Lies f1 g 0 w' ∧ Rdr R ⟨#[]⟩ 1 false w' ∧ KpR R w w' := by
  obtain ⟨i0, hi0, hi1, hi2, hi3⟩ := info_parts infoNode0
  have hRl := h.lt
  have CN := hide (rnum_ok R s1b 0 300 1 2 false w h (by decide) (by decide) (by omega))
  rw [show bs (s1b.data.toList.drop 2) = ⟨#[1, 2, 1, 1, 97]⟩ from rfl] at CN
  have CT := hide (fun (W : World) (hW : Rdr R ⟨#[1, 2, 1, 1, 97]⟩ 1 false W) => rnode_text R ⟨#[1, 2, 1, 1, 97]⟩ 1 1 2 2 1 W hW (by decide) (by decide) (by decide))
  rw [show bs (((((⟨#[1, 2, 1, 1, 97]⟩ : ByteArray).data.toList.drop 2).drop 2).take 1)) = ⟨#[97]⟩ from rfl, show bs (((((⟨#[1, 2, 1, 1, 97]⟩ : ByteArray).data.toList.drop 2).drop 2).drop 1)) = ⟨#[]⟩ from rfl] at CT
  clear h
  generalize hx : (⟨#[1, 2, 1, 1, 97]⟩ : ByteArray) = x at *
  clear hx
  go_enter Tryd.func59, Tryd.ntmps59
  go_wp2_with fail
  refine (unhide CN).mono ?_
  rintro e w1 ⟨rfl, h1, hk1⟩
  have a1 : w1.cell? ⟨R, 1, none⟩ = some (.int .i64 0) := h1.cell 1
  have f1' : w1.frozen? ⟨R, 1, none⟩ = false := h1.frozen 1
  have a2 : w1.cell? ⟨R, 2, none⟩ = some (.bool false) := h1.cell 2
  have h1s : Rdr R x 1 false (w1.setCell ⟨R, 1, none⟩ (.int .i64 1)) := Blk.set (vs := #[.string x, .int .i64 0, .bool false]) h1 1 (by simp) _
  have CT1 := hide (unhide CT _ h1s)
  have HK1 := hide (hk1.set 1 (.int .i64 1))
  have hR1 : R < w1.heap.size := h1.lt
  clear CN CT h1 hk1 h1s
  go_wp2
  refine wp_loop_rounds 2 ?_
  rw [rounds_succ]
  go_wp2_with fail
  refine (unhide CT1).mono ?_
  rintro e w2 ⟨rfl, h2, hk2⟩
  have hw2 : w.heap.size ≤ w2.heap.size := by have h3 := (unhide HK1).size; have h4 := hk2.size; omega
  have HX := hide (And.intro h2 ((unhide HK1).trans hk2))
  clear CT1 h2 hk2 HK1 a1 a2 f1'
  go_wp2_with (at_builtin; refine wpList_append_own _ rfl _ _ 22 rfl w2.heap.size 31 i0 (.agg #[.int .i64 0, .int .i64 0, .string ⟨#[]⟩, .slice none 0 0, .string ⟨#[]⟩, .slice none 0 0]) 6 96 Tryd.underlying22 hi0 hi1 hi2 hi3 rfl (by decide) _ _ _ rfl (World.ownsRow_nil _ _ _ _) ⟨w2.heap.size, 0, none⟩ 1 1 [.int .i64 2, .int .i64 0, .string ⟨#[]⟩, .slice none 0 0, .string ⟨#[97]⟩, .slice none 0 0] rfl rfl ?c1 ?c2 ?c3 ?c4 ?c5 ?_)
  case c1 => intro j u hj; exact lit6 hj
  case c2 => intro u hu; simp at hu; rcases hu with rfl | rfl | rfl | rfl | rfl | rfl <;> rfl
  case c3 => unfold maxLen; omega
  case c4 => omega
  case c5 => simp
  intro v' w5 hrow5 hgrow5 _
  obtain ⟨g, cap, rfl, hcap, hg, hgl, hcl⟩ := one_row hrow5
  have hb5 : Below w2.heap.size w2 w5 := ((Below.refl w2.heap.size w2).alloc (Nat.le_refl _) (Obj.cells #[.int .i64 2, .int .i64 0, .string ⟨#[]⟩, .slice none 0 0, .string ⟨#[97]⟩, .slice none 0 0] 31)).grown hgrow5 (by simp) (fun j hj => by simp [Value.ownBlock] at hj)
  have HY : Hid (1 ≤ cap ∧ Lies f1 g 0 w5 ∧ Rdr R ⟨#[]⟩ 1 false w5 ∧ KpR R w w5) := hide ⟨hcap, ⟨⟨hcl 0 _ rfl, hcl 1 _ rfl, hcl 2 _ rfl, ⟨none, 0, hcl 3 _ rfl, .inl rfl⟩, hcl 4 _ rfl, ⟨none, 0, hcl 5 _ rfl, Nat.le_refl _, .inl rfl⟩⟩, trivial⟩, Blk.later (unhide HX).1 hb5, (unhide HX).2.trans (KpR.of hb5)⟩
  clear hrow5 hgrow5 hcl hb5 HX hcap
  go_wp2
  rw [rounds_succ]
  go_wp2
  go_ret
  exact ⟨g, cap, rfl, unhide HY⟩
end Go.Proofs.YtpfnjgkfombmpaaDoor
