/-
  The reference of layer 10: times, Alike; an entry as the reference's.
-/
import Derived.Test.YtabajhbghjfhoaaACv
namespace Go.Proofs.Ytabajhbghjfhoaa
open Go.RowKit
set_option linter.unusedVariables false
set_option linter.unusedSimpArgs false

theorem dec_beq (x y : List UInt8) : decide (x = y) = (x == y) := by by_cases h : x = y <;> simp [h]
set_option maxHeartbeats 2000000 in
set_option maxRecDepth 100000 in
theorem times_pos (g o n cap : Nat) (ats : List (ByteArray × ByteArray)) (a b : ByteArray) (w : World) (hn : Hid (ats.length = n)) (h0 : 0 < n) (hl : n ≤ 4398046511104) (hc : Cells2 g o ats w) :
    Calls Try.prog 78 #[.slice (some ⟨g, o, none⟩) n cap, .agg #[.string a, .string b]] w fun e w' => e = .returned (.int .i64 (timesN ats a b n : Nat)) ∧ Below w.heap.size w w' := by
  have HC := hide hc
  have b1 : Below w.heap.size w (w.alloc (Obj.cells #[.string a, .string b] 108)) := (Below.refl _ _).alloc (Nat.le_refl _) _
  have k1 := hide (Blk.new w #[.string a, .string b] 108)
  have B1 := hide b1
  clear hc b1
  go_enter Try.func78, Try.ntmps78
  go_wp2
  go_loopw [5, 10] (fun c i wr => ∃ k : Nat, k ≤ n ∧ i = .int .i64 k ∧ c = .int .i64 (timesN ats a b k : Nat) ∧ Below w.heap.size w wr ∧ Blk wr w.heap.size #[.string a, .string b] 108) (fun _ i _ => n - (intOf i).toNat)
  case atStart => exact ⟨0, Nat.zero_le _, rfl, rfl, unhide B1, unhide k1⟩
  case round =>
    obtain ⟨k, hk, rfl, rfl, hbw, kB⟩ := hrel
    have HB := hide hbw
    have KB := hide kB
    have hsz := hbw.size
    have hbl := kB.lt
    by_cases hp : k < n
    · have hpi : (k : Int) < (n : Int) := by omega
      obtain ⟨c1, c2⟩ := (unhide HC).below hbw k (by rw [unhide hn]; exact hp)
      have d0 : wr.cell? ⟨w.heap.size, 0, none⟩ = some (.string a) := kB.cell 0
      have d1 : wr.cell? ⟨w.heap.size, 1, none⟩ = some (.string b) := kB.cell 1
      have hle := timesN_le ats a b k
      have HS : Hid (timesN ats a b (k + 1) = timesN ats a b k + (if eqA (an ats k) (av ats k) a b then 1 else 0)) := hide rfl
      have HE : Hid (eqA (an ats k) (av ats k) a b = ((an ats k).toList == a.toList && (av ats k).toList == b.toList)) := hide (by
        unfold eqA
        rw [Lib.toList_data, Lib.toList_data, Lib.toList_data, Lib.toList_data]
        rw [dec_beq, dec_beq])
      have b2 : Below wr.heap.size wr (wr.alloc (Obj.cells #[.string (an ats k), .string (av ats k)] 108)) := (Below.refl _ _).alloc (Nat.le_refl _) _
      have HB2 := hide (tr2 hbw b2)
      have KB2 := hide (kB.later b2)
      clear b2 hbw kB
      generalize an ats k = x1 at *
      generalize av ats k = x2 at *
      generalize htk : timesN ats a b k = tk at *
      clear htk
      have htk : (tk : Int) + 1 ≤ 4398046511105 := by omega
      cases q1 : (x1.toList == a.toList) with
      | false =>
        have HR : Hid (timesN ats a b (k + 1) = tk) := hide (by rw [unhide HS, unhide HE, q1]; simp)
        go_wp2
        go_roundw
        case rel => exact ⟨k + 1, by omega, by go_num, by rw [unhide HR], unhide HB2, unhide KB2⟩
        case measure => simp [intOf]; omega
      | true =>
        cases q2 : (x2.toList == b.toList) with
        | false =>
          have HR : Hid (timesN ats a b (k + 1) = tk) := hide (by rw [unhide HS, unhide HE, q1, q2]; simp)
          go_wp2
          go_roundw
          case rel => exact ⟨k + 1, by omega, by go_num, by rw [unhide HR], unhide HB2, unhide KB2⟩
          case measure => simp [intOf]; omega
        | true =>
          have HR : Hid (timesN ats a b (k + 1) = tk + 1) := hide (by rw [unhide HS, unhide HE, q1, q2]; simp)
          go_wp2
          go_roundw
          case rel => exact ⟨k + 1, by omega, by go_num, by rw [unhide HR]; go_num, unhide HB2, unhide KB2⟩
          case measure => simp [intOf]; omega
    · have hke : k = n := by omega
      subst hke
      have hnl : ¬ (k : Int) < (k : Int) := by omega
      clear hbw kB hp
      go_wp2
      go_ret
      exact ⟨rfl, unhide HB⟩
theorem times_zero (q : Option Addr) (cap : Nat) (a b : ByteArray) (w : World) :
    Calls Try.prog 78 #[.slice q 0 cap, .agg #[.string a, .string b]] w fun e w' => e = .returned (.int .i64 0) ∧ Below w.heap.size w w' := by
  go_enter Try.func78, Try.ntmps78
  go_wp2
  refine wp_loop_rounds 1 ?_
  rw [rounds_succ]; go_wp2
  go_ret
  exact ⟨rfl, (Below.refl _ _).alloc (Nat.le_refl _) _⟩
theorem times_v (q : Option Addr) (n cap : Nat) (ats : List (ByteArray × ByteArray)) (a b : ByteArray) (w : World) (h : AtsV q n ats w) :
    Calls Try.prog 78 #[.slice q n cap, .agg #[.string a, .string b]] w fun e w' => e = .returned (.int .i64 (timesN ats a b n : Nat)) ∧ Below w.heap.size w w' := by
  obtain ⟨h1, h2, h3, h4⟩ := h
  by_cases h0 : n = 0
  · subst h0; exact times_zero q cap a b w
  · rcases h4 with h | ⟨g, o, rfl, h6⟩
    · exact absurd h h0
    · exact times_pos g o n cap ats a b w (hide h1.symm) (by omega) h2 h6
set_option maxHeartbeats 1000000 in
theorem aref_any (xm : Bool) (xi : Int) (xn : ByteArray) (q : Option Addr) (n c : Nat) (w : World) : Calls Try.prog 35 #[.agg #[.bool xm, .int .i64 xi, .string xn, .slice q n c]] w fun e w' => e = .returned (.agg #[.bool xm, .int .i64 xi, .string xn, .slice q n c]) ∧ Below w.heap.size w w' := by
  go_enter Try.func35, Try.ntmps35
  go_wp2
  refine bodyPost_ret (v := .agg #[.bool xm, .int .i64 xi, .string xn, .slice q n c]) (by simp [results, Try.results35, go_sem]) rfl ?_
  exact ⟨rfl, ((Below.refl _ _).alloc (Nat.le_refl _) _).alloc (by simp) _⟩
/-- Does each of the first ones stand just once in both, as the reference counts? -/
def onceR (ax ay : List (ByteArray × ByteArray)) (n m : Nat) : Nat → Bool
  | 0 => true
  | k + 1 => onceR ax ay n m k && (timesN ax (an ax k) (av ax k) n == 1 && timesN ay (an ax k) (av ax k) m == 1)
theorem onceR_no (ax ay : List (ByteArray × ByteArray)) (n m k : Nat) (h : (timesN ax (an ax k) (av ax k) n == 1 && timesN ay (an ax k) (av ax k) m == 1) = false) : ∀ j, k < j → onceR ax ay n m j = false
  | 0, hk => by omega
  | j + 1, hk => by
    unfold onceR
    by_cases he : k = j
    · subst he; rw [h, Bool.and_false]
    · rw [onceR_no ax ay n m k h j (by omega), Bool.false_and]
theorem onceR_same (ax ay : List (ByteArray × ByteArray)) (n : Nat) : ∀ k, onceR ax ay n n k = onceK ax ay n k
  | 0 => rfl
  | k + 1 => by unfold onceR onceK; rw [onceR_same ax ay n k]
theorem ralike_eq (xn yn : ByteArray) (ax ay : List (ByteArray × ByteArray)) : (onceR ax ay ax.length ay.length ax.length && ((xn.toList == yn.toList) && (ax.length == ay.length))) = alikeB xn ax yn ay := by
  unfold alikeB
  by_cases h : ax.length = ay.length
  · rw [h, ← h, onceR_same, beq_self_eq_true, Bool.and_true, Bool.true_and, Bool.and_comm]
  · rw [beq_eq_false_iff_ne.2 h]; simp
set_option maxHeartbeats 8000000 in
set_option maxRecDepth 100000 in
theorem ralike_any (am bm : Bool) (ai bi : Int) (xn yn : ByteArray) (aq bq : Option Addr) (n ac m bc : Nat) (ax ay : List (ByteArray × ByteArray)) (w : World) (hx : AtsV aq n ax w) (hy : AtsV bq m ay w) :
    Calls Try.prog 34 #[.agg #[.bool am, .int .i64 ai, .string xn, .slice aq n ac], .agg #[.bool bm, .int .i64 bi, .string yn, .slice bq m bc]] w fun e w' => e = .returned (.bool (onceR ax ay n m n && ((xn.toList == yn.toList) && (n == m)))) ∧ Below w.heap.size w w' := by
  have b2 : Below w.heap.size w ((w.alloc (Obj.cells #[.bool am, .int .i64 ai, .string xn, .slice aq n ac] 65)).alloc (Obj.cells #[.bool bm, .int .i64 bi, .string yn, .slice bq m bc] 65)) := ((Below.refl _ _).alloc (Nat.le_refl _) _).alloc (by simp) _
  have HX := hide hx
  have HY := hide hy
  have C1 := hide (fun a b W hW => times_v aq n ac ax a b W hW)
  have C2 := hide (fun a b W hW => times_v bq m bc ay a b W hW)
  have kA : Blk ((w.alloc (Obj.cells #[.bool am, .int .i64 ai, .string xn, .slice aq n ac] 65)).alloc (Obj.cells #[.bool bm, .int .i64 bi, .string yn, .slice bq m bc] 65)) w.heap.size #[.bool am, .int .i64 ai, .string xn, .slice aq n ac] 65 := (Blk.new w _ _).alloc _
  have kB : Blk ((w.alloc (Obj.cells #[.bool am, .int .i64 ai, .string xn, .slice aq n ac] 65)).alloc (Obj.cells #[.bool bm, .int .i64 bi, .string yn, .slice bq m bc] 65)) (w.heap.size + 1) #[.bool bm, .int .i64 bi, .string yn, .slice bq m bc] 65 := Eq.mp (by simp) (Blk.new (w.alloc (Obj.cells #[.bool am, .int .i64 ai, .string xn, .slice aq n ac] 65)) #[.bool bm, .int .i64 bi, .string yn, .slice bq m bc] 65)
  have HB := hide b2
  have KA := hide kA
  have KB := hide kB
  have hbound := hx.2.1
  clear b2 kA kB
  go_enter Try.func34, Try.ntmps34
  go_wp2
  go_loopw [10] (fun i wr => ∃ k : Nat, k ≤ n ∧ i = .int .i64 k ∧ onceR ax ay n m k = true ∧ Blk wr w.heap.size #[.bool am, .int .i64 ai, .string xn, .slice aq n ac] 65 ∧ Blk wr (w.heap.size + 1) #[.bool bm, .int .i64 bi, .string yn, .slice bq m bc] 65 ∧ Below w.heap.size w wr) (fun i _ => n - (intOf i).toNat)
  case atStart => exact ⟨0, Nat.zero_le _, rfl, rfl, unhide KA, unhide KB, unhide HB⟩
  case round =>
    clear HB KA KB
    obtain ⟨k, hk, rfl, hon, kA, kB, hbw⟩ := hrel
    have KA := hide kA
    have KB := hide kB
    have HB := hide hbw
    have hsz := hbw.size
    have hl1 := kB.lt
    have a2 : wr.cell? ⟨w.heap.size, 2, none⟩ = some (.string xn) := kA.cell 2
    have a3 : wr.cell? ⟨w.heap.size, 3, none⟩ = some (.slice aq n ac) := kA.cell 3
    have e2 : wr.cell? ⟨w.heap.size + 1, 2, none⟩ = some (.string yn) := kB.cell 2
    have e3 : wr.cell? ⟨w.heap.size + 1, 3, none⟩ = some (.slice bq m bc) := kB.cell 3
    by_cases hp : k < n
    · have hpi : (k : Int) < (n : Int) := by omega
      obtain ⟨hxl, _, hxs, hxc⟩ := unhide HX
      rcases hxc with h0 | ⟨g, o, rfl, hcs⟩
      · omega
      have hkl : k < ax.length := by omega
      obtain ⟨c1, c2⟩ := hcs.below hbw k hkl
      have HN := hide (onceR_no ax ay n m k)
      have HS : Hid (onceR ax ay n m (k + 1) = (onceR ax ay n m k && (timesN ax (an ax k) (av ax k) n == 1 && timesN ay (an ax k) (av ax k) m == 1))) := hide rfl
      have HON := hide hon
      have b3 : Below wr.heap.size wr (wr.alloc (Obj.cells #[.string (an ax k), .string (av ax k)] 108)) := (Below.refl _ _).alloc (Nat.le_refl _) _
      have HB3 := hide (tr2 hbw b3)
      have KX := hide (Blk.new wr #[.string (an ax k), .string (av ax k)] 108)
      have KA3 := hide (kA.later b3)
      have KB3 := hide (kB.later b3)
      have a3' : (wr.alloc (Obj.cells #[.string (an ax k), .string (av ax k)] 108)).cell? ⟨w.heap.size, 3, none⟩ = some (.slice (some ⟨g, o, none⟩) n ac) := (unhide KA3).cell 3
      have C1k := hide (fun W hW => unhide C1 (an ax k) (av ax k) W hW)
      have C2k := hide (fun W hW => unhide C2 (an ax k) (av ax k) W hW)
      have HF := hide (fun h => unhide HN h n hp)
      clear hcs hxs hon hbw hkl hxl kA kB b3 C1 C2 HN
      generalize an ax k = a1 at *
      generalize av ax k = a2' at *
      generalize timesN ax a1 a2' n = tA at *
      generalize timesN ay a1 a2' m = tB at *
      go_wp2_with fail
      refine (unhide C1k _ ((unhide HX).below (unhide HB3))).mono ?_
      rintro e w5 ⟨rfl, hb5⟩
      have HB5 := hide (tr2 (unhide HB3) hb5)
      have x0 : w5.cell? ⟨wr.heap.size, 0, none⟩ = some (.string a1) := ((unhide KX).later hb5).cell 0
      have x1 : w5.cell? ⟨wr.heap.size, 1, none⟩ = some (.string a2') := ((unhide KX).later hb5).cell 1
      have f3 : w5.cell? ⟨w.heap.size + 1, 3, none⟩ = some (.slice bq m bc) := ((unhide KB3).later hb5).cell 3
      have KA5 := hide ((unhide KA3).later hb5)
      have KB5 := hide ((unhide KB3).later hb5)
      clear hb5
      by_cases hA : tA = 1
      · subst hA
        go_wp2_with fail
        refine (unhide C2k _ ((unhide HY).below (unhide HB5))).mono ?_
        rintro e w6 ⟨rfl, hb6⟩
        have HB6 := hide (tr2 (unhide HB5) hb6)
        have KA6 := hide ((unhide KA5).later hb6)
        have KB6 := hide ((unhide KB5).later hb6)
        clear hb6
        by_cases hB : tB = 1
        · subst hB
          go_wp2
          go_roundw
          case rel => exact ⟨k + 1, by omega, by go_num, by rw [unhide HS, unhide HON]; rfl, unhide KA6, unhide KB6, unhide HB6⟩
          case measure => simp [intOf]; omega
        · have i1 : ((tB : Int) == 1) = false := beq_eq_false_iff_ne.2 (by omega)
          have i2 : (tB == 1) = false := beq_eq_false_iff_ne.2 hB
          have i3 : ¬ (tB : Int) = 1 := by omega
          have HFF := hide (unhide HF (by rw [i2]; rfl))
          go_wp2
          go_ret
          exact ⟨by rw [unhide HFF]; rfl, unhide HB6⟩
      · have i1 : ((tA : Int) == 1) = false := beq_eq_false_iff_ne.2 (by omega)
        have i2 : (tA == 1) = false := beq_eq_false_iff_ne.2 hA
        have i3 : ¬ (tA : Int) = 1 := by omega
        have HFF := hide (unhide HF (by rw [i2]; rfl))
        go_wp2
        go_ret
        exact ⟨by rw [unhide HFF]; rfl, unhide HB5⟩
    · have hke : k = n := by omega
      subst hke
      have hnl : ¬ (k : Int) < (k : Int) := by omega
      have HON := hide hon
      clear kA kB hbw hp hon
      cases hnm : (xn.toList == yn.toList) with
      | false =>
        go_wp2
        go_ret
        exact ⟨by first | rfl | (rw [unhide HON]; rfl) | (rw [unhide HON]; simp), unhide HB⟩
      | true =>
        by_cases hkm : k = m
        · subst hkm
          have j1 : ((k : Int) == (k : Int)) = true := by simp
          go_wp2
          go_ret
          exact ⟨by first | rfl | (rw [unhide HON]; rfl) | (rw [unhide HON]; simp), unhide HB⟩
        · have j1 : ((k : Int) == (m : Int)) = false := beq_eq_false_iff_ne.2 (by omega)
          have j2 : (k == m) = false := beq_eq_false_iff_ne.2 hkm
          have j3 : ¬ (k : Int) = (m : Int) := by omega
          go_wp2
          go_ret
          exact ⟨by first | rfl | (rw [unhide HON, j2]; rfl) | (rw [unhide HON]; simp [j2]), unhide HB⟩
end Go.Proofs.Ytabajhbghjfhoaa
