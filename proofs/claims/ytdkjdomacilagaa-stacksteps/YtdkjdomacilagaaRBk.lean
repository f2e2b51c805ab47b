/-
  The reference's Back and To.
-/
import Derived.Test.YtdkjdomacilagaaRCu
namespace Go.Proofs.Ytdkjdomacilagaa
open Go.RowKit
set_option linter.unusedVariables false
set_option linter.unusedSimpArgs false

/-- How many are left by Back. -/
def keepN (ns : List (List UInt8)) (L : List Ent) : Nat := (lastN ns L 0 (-1) + 1).toNat
theorem keepN_le (ns : List (List UInt8)) (L : List Ent) : keepN ns L ≤ L.length := by
  have := lastN_lt ns L
  unfold keepN; omega
theorem keepN_int (ns : List (List UInt8)) (L : List Ent) : ((keepN ns L : Nat) : Int) = lastN ns L 0 (-1) + 1 := by
  have := lastN_lt ns L
  unfold keepN; omega
theorem keepN_eq (ns : List (List UInt8)) (L : List Ent) : keepN ns L = L.length - offN (fun e => !nmdB e ns) L := by
  induction h : L.length generalizing L with
  | zero => obtain rfl := List.eq_nil_of_length_eq_zero h; simp [keepN, lastN]
  | succ n ih =>
    obtain ⟨a, x, rfl⟩ := snoc_of L (by omega)
    have hl : a.length = n := by simp at h; exact h
    have IH := ih a hl
    have hb := lastN_lt ns a
    have ho := offN_le (fun e => !nmdB e ns) a
    unfold keepN at IH ⊢
    rw [offN_snoc, lastN_snoc, Nat.zero_add]
    cases nmdB x ns <;> simp <;> omega

set_option maxHeartbeats 1000000 in
theorem rback_any (base p : Nat) (v nv : Value) (ns : List (List UInt8)) (L : List Ent) (w : World) (h : RStk base p v L w) (hbase : base ≤ w.heap.size) (hN : L.length ≤ 1000000) (hv : View w nv (Ls ns)) :
    Calls Try.prog 46 #[ptr p, nv] w fun e w' => e = .returned (.int .i64 ((L.length : Int) - keepN ns L)) ∧ RUpd base p v (L.take (keepN ns L)) w w' := by
  have c0 : w.cell? ⟨p, 0, none⟩ = some v := h.1.cell 0
  have C := hide (rlast_any base p v nv ns L w h hv)
  have hk := keepN_le ns L
  have D := hide (fun W hW hB => rcut_any base p (keepN ns L) v L W hW hB hN hk)
  have ek := keepN_int ns L
  have el : lastN ns L 0 (-1) = ((keepN ns L : Nat) : Int) - 1 := by omega
  rw [el] at C
  have H := hide h
  obtain ⟨q, cap, rfl, hc, hm, _⟩ := h.slice
  obtain ⟨_, nq, nc, rfl, _⟩ := hv
  have HT : Hid ((L.take (keepN ns L)).length = keepN ns L) := hide (by rw [List.length_take, Nat.min_eq_left hk])
  clear h ek el
  generalize keepN ns L = k at *
  unfold ptr at *
  go_enter Try.func46, Try.ntmps46
  go_wp2_with fail
  refine (unhide C).mono ?_
  rintro e w1 ⟨rfl, hb⟩
  have HB := hide hb
  have hz := hb.size
  clear hb
  have ea : ((k : Int) - 1) + 1 = (k : Int) := by omega
  go_wp2_with fail
  try rw [ea]
  refine (unhide D w1 ((unhide H).later (unhide HB)) (by omega)).mono ?_
  rintro e w2 ⟨rfl, hu⟩
  have HU := hide (RUpd.ahead (unhide HB) hu)
  obtain ⟨v2, hs2, _, _⟩ := hu
  have d0 : w2.cell? ⟨p, 0, none⟩ = some v2 := hs2.1.cell 0
  obtain ⟨q2, cap2, rfl, _⟩ := hs2.slice
  rw [unhide HT] at d0
  clear hs2
  go_wp2
  go_ret
  exact ⟨by first | rfl | go_num, unhide HU⟩

set_option maxHeartbeats 1000000 in
theorem rto_any (base p : Nat) (v nv : Value) (ns : List (List UInt8)) (L : List Ent) (w : World) (h : RStk base p v L w) (hbase : base ≤ w.heap.size) (hN : L.length ≤ 1000000) (hv : View w nv (Ls ns)) :
    Calls Try.prog 44 #[ptr p, nv] w fun e w' => e = .returned (.int .i64 ((L.length : Int) - ((keepN ns L - 1 : Nat) : Int))) ∧ RUpd base p v (L.take (keepN ns L - 1)) w w' := by
  have c0 : w.cell? ⟨p, 0, none⟩ = some v := h.1.cell 0
  have C := hide (rback_any base p v nv ns L w h hbase hN hv)
  have hk := keepN_le ns L
  have D := hide (fun v2 W hW hB => rpop_any base p v2 (L.take (keepN ns L)) W hW hB (by rw [List.length_take]; omega))
  obtain ⟨q, cap, rfl, hc, hm, _⟩ := h.slice
  obtain ⟨_, nq, nc, rfl, _⟩ := hv
  have hl : (L.take (keepN ns L)).length = keepN ns L := by rw [List.length_take, Nat.min_eq_left hk]
  have HT : Hid ((L.take (keepN ns L - 1)).length = keepN ns L - 1) := hide (by rw [List.length_take]; omega)
  rw [hl, List.take_take, show min (keepN ns L - 1) (keepN ns L) = keepN ns L - 1 by omega] at D
  clear h hl
  have hm2 : keepN ns L - 1 ≤ L.length := by omega
  generalize keepN ns L - 1 = m at *
  generalize keepN ns L = k at *
  unfold ptr at *
  go_enter Try.func44, Try.ntmps44
  go_wp2_with fail
  refine (unhide C).mono ?_
  rintro e w1 ⟨rfl, v1, hs1, ht1, ho1⟩
  have hz := ht1.size
  have DD := hide (unhide D v1 w1 hs1 (by omega))
  have HO := hide (fun (u : Value) (L' : List Ent) (w2 : World) (hu : RUpd base p v1 L' w1 w2) => RUpd.trans (L := L) ht1 ho1 hu)
  clear hs1 ht1 ho1
  go_wp2_with fail
  refine (unhide DD).mono ?_
  rintro e w2 ⟨rfl, hu⟩
  have HU := hide (unhide HO v1 _ w2 hu)
  obtain ⟨v2, hs2, _, _⟩ := hu
  have d0 : w2.cell? ⟨p, 0, none⟩ = some v2 := hs2.1.cell 0
  obtain ⟨q2, cap2, rfl, _⟩ := hs2.slice
  rw [unhide HT] at d0
  clear hs2
  go_wp2
  go_ret
  exact ⟨by first | rfl | go_num, unhide HU⟩
end Go.Proofs.Ytdkjdomacilagaa
