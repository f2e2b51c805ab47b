/-
  The law UtfCleans walked: any text, cleaned; whether it is right; how many characters it has, and which.
-/
import Derived.Test.YtekkgmgdihlefabDoorUx
import Derived.Deep.RegionHeld3
namespace Go.Proofs.YtekkgmgdihlefabDoor
open Go.RowKit
set_option linter.unusedVariables false

/-- What each call of the law's last statement finds and leaves: the tables, the two fields of what the reference answered, and all that was there. -/
def Keep (w0 : World) (g : Nat) (v : Value) (r : Bool) (w : World) : Prop :=
  Tabs w ∧ w.cell? ⟨g, 0, none⟩ = some v ∧ w.cell? ⟨g, 1, none⟩ = some (.bool r) ∧ Below w0.heap.size w0 w
theorem Keep.below {w0 w w' : World} {g : Nat} {v : Value} {r : Bool} (h : Keep w0 g v r w) (hb : Below w.heap.size w w') : Keep w0 g v r w' :=
  ⟨h.1.below hb, cell_later hb h.2.1, cell_later hb h.2.2.1, tr2 h.2.2.2 hb⟩

theorem Keep.both {w0 w : World} {g : Nat} {v : Value} {r : Bool} (h : Keep w0 g v r w) : w.cell? ⟨g, 0, none⟩ = some v ∧ w.cell? ⟨g, 1, none⟩ = some (.bool r) ∧ Keep w0 g v r w := ⟨h.2.1, h.2.2.1, h⟩

def KeepsAt (w0 : World) (g : Nat) (v : Value) (r : Bool) (f : Nat) (args : Array Value) (x : Value) : Prop :=
  ∀ w, Keep w0 g v r w → Calls Tryd.prog f args w fun e w' => e = .returned x ∧ Keep w0 g v r w'
theorem keepsAt {w0 : World} {g : Nat} {v : Value} {r : Bool} {f : Nat} {args : Array Value} {x : Value} (h : ∀ w, Tabs w → Calls Tryd.prog f args w fun e w' => e = .returned x ∧ Below w.heap.size w w') : KeepsAt w0 g v r f args x := by
  intro w hk
  exact (h w hk.1).mono fun e w' ⟨h1, h2⟩ => ⟨h1, hk.below h2⟩

set_option maxHeartbeats 1000000 in
theorem cleans_main (s y : ByteArray) (n c er : Int) (cs : List Int) (r : Bool) (w : World) (ht : Tabs w) (hab : Euro) (hs : s.size ≤ 3000) (hn : cs.length ≤ 3000)
    (A1 : Hid (∀ w, Tabs w → Calls Tryd.prog 13 #[.string s, .int .i64 n] w fun e w' => e = .returned (.tuple #[.int .i64 c, .int .i64 er]) ∧ Below w.heap.size w w'))
    (A2 : Hid (∀ w, Calls Tryd.prog 14 #[.string s, .int .i64 n] w fun e w' => e = .returned (.tuple #[.int .i64 c, .int .i64 er]) ∧ Below w.heap.size w w'))
    (A3 : Hid (OfIs s cs r))
    (A4 : Hid (∀ w, Tabs w → Calls Tryd.prog 16 #[.string s] w fun e w' => e = .returned (.string y) ∧ Below w.heap.size w w'))
    (A5 : Hid (∀ w, Tabs w → Calls Tryd.prog 17 #[.string s] w fun e w' => e = .returned (.string y) ∧ Below w.heap.size w w'))
    (A6 : Hid (∀ w, Tabs w → Calls Tryd.prog 18 #[.string s] w fun e w' => e = .returned (.bool r) ∧ Below w.heap.size w w'))
    (A7 : Hid (∀ w, Tabs w → Calls Tryd.prog 19 #[.string s] w fun e w' => e = .returned (.int .i64 (cs.length : Int)) ∧ Below w.heap.size w w')) :
    Calls Tryd.prog 5 #[.string s, .int .i64 n] w fun e w' => e = .returned (.bool true) ∧ Below w.heap.size w w' := by
  have HT := hide ht
  clear ht
  have hrr : (r == r) = true := by simp
  have hyy : (y.toList == y.toList) = true := by simp
  have hcc : (c == c) = true := by simp
  have hee : (er == er) = true := by simp
  have hll : ((cs.length : Int) == (cs.length : Int)) = true := by simp
  go_enter Tryd.func5, Tryd.ntmps5
  go_wp2_with fail
  refine (unhide A1 _ (unhide HT)).mono ?_
  rintro e w1 ⟨rfl, hb1⟩
  go_wp2_with fail
  refine (unhide A2 _).mono ?_
  rintro e w2 ⟨rfl, hb2⟩
  go_wp2_with fail
  refine (unhide A3 _).mono ?_
  rintro e w3 ⟨v, rfl, hv, hb3⟩
  obtain ⟨a, cap, rfl, _⟩ := hv
  have hb03 := tr3 hb1 hb2 hb3
  have hkk : Keep w w3.heap.size (.slice a cs.length cap) r (w3.alloc (.cells #[.slice a cs.length cap, .bool r] 37)) := by
    refine ⟨((unhide HT).below hb03).below ((Below.refl _ _).alloc (Nat.le_refl _) _), World.cell?_alloc_at _ _ _ _ rfl, World.cell?_alloc_at _ _ _ _ rfl, tr2 hb03 ((Below.refl _ _).alloc (Nat.le_refl _) _)⟩
  have hk0 : Keep w w3.heap.size (.slice a cs.length cap) r (w3.alloc (.cells #[.slice a cs.length cap, .bool r] 37)).drew  := hkk.below (Below.drew (Below.refl _ _))
  have K4 : Hid (KeepsAt w w3.heap.size (.slice a cs.length cap) r 16 #[.string s] (.string y)) := keepsAt (unhide A4)
  have K5 : Hid (KeepsAt w w3.heap.size (.slice a cs.length cap) r 17 #[.string s] (.string y)) := keepsAt (unhide A5)
  have K6 : Hid (KeepsAt w w3.heap.size (.slice a cs.length cap) r 18 #[.string s] (.bool r)) := keepsAt (unhide A6)
  have K7 : Hid (KeepsAt w w3.heap.size (.slice a cs.length cap) r 19 #[.string s] (.int .i64 (cs.length : Int))) := keepsAt (unhide A7)
  have K8 : Hid (KeepsAt w w3.heap.size (.slice a cs.length cap) r 10 #[] (.bool true)) := keepsAt hab
  have HK0 := hide hk0
  clear hk0 hkk hb1 hb2 hb3 hb03 A1 A2 A3 A4 A5 A6 A7 HT
  go_wp2_with fail
  go_region_held3 (fun w' => w'.cell? ⟨w3.heap.size, 0, none⟩ = some (.slice a cs.length cap) ∧ w'.cell? ⟨w3.heap.size, 1, none⟩ = some (.bool r) ∧ Keep w w3.heap.size (.slice a cs.length cap) r w')
    (first | exact (unhide HK0).both | exact hk1.both | exact hk2.both | exact hk3.both | exact hk4.both | exact hk5.both)
    (first
    | (go_at_call 16; refine (unhide K4 _ (unhide HK0)).mono ?_; rintro e w4 ⟨rfl, hk1⟩)
    | (go_at_call 17; refine (unhide K5 _ hk1).mono ?_; rintro e w5 ⟨rfl, hk2⟩)
    | (go_at_call 18; refine (unhide K6 _ hk2).mono ?_; rintro e w6 ⟨rfl, hk3⟩)
    | (go_at_call 19; refine (unhide K7 _ hk3).mono ?_; rintro e w7 ⟨rfl, hk4⟩)
    | (go_at_call 10; refine (unhide K8 _ hk4).mono ?_; rintro e w8 ⟨rfl, hk5⟩))
  go_wp2
  go_ret
  exact ⟨rfl, hk5.2.2.2⟩

theorem utfCleans_walk (s : ByteArray) (n : Int) (w : World) (ht : Tabs w) (hs : s.size ≤ 9223372036854775807) (hn : n ≤ 9223372036854775807) :
    Calls Tryd.prog 5 #[.string s, .int .i64 n] w fun e w' => e = .returned (.bool true) ∧ Below w.heap.size w w' := by
  have hab := euro_any
  by_cases h1 : 3000 < s.size
  · have HT := hide ht
    clear ht
    go_enter Tryd.func5, Tryd.ntmps5
    go_wp2_with fail
    refine (hab _ (unhide HT)).mono ?_
    rintro e w5 ⟨rfl, hb5⟩
    go_wp2
    go_ret
    exact ⟨rfl, hb5⟩
  · have h1' : s.size ≤ 3000 := by omega
    obtain ⟨c, er, a1, a2⟩ := ats_both s n h1' hn
    have hlen := ch_len s.size s.data.toList (by rw [data_len]; exact Nat.le_refl _)
    rw [data_len] at hlen
    refine cleans_main s (bs (cleanL s.data.toList)) n c er ((ch s.data.toList).map (·.1)) (rightB s.data.toList) w ht hab h1' (by simp; omega) (hide a1) (hide a2) (hide (ofIs s h1'))
      (hide fun w h => clean_any s w h (by omega)) (hide fun w _ => rclean_any s w h1') (hide fun w h => right_any s w h hs) (hide fun w h => ?_)
    have := count_any s w h hs
    rw [List.length_map]; exact this
end Go.Proofs.YtekkgmgdihlefabDoor
