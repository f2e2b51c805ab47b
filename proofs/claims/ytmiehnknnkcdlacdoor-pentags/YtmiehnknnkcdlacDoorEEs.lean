/-
  What 'refs.Escape' does: any text with references.
-/
import Derived.Test.YtmiehnknnkcdlacDoorEEp
import Derived.Test.YtmiehnknnkcdlacDoorBdK
import Derived.Test.YtmiehnknnkcdlacDoorEAt
namespace Go.Proofs.YtmiehnknnkcdlacDoor
open Go.RowKit
set_option linter.unusedVariables false

theorem cut_cut (l : List UInt8) (a b n : Nat) (h : a ≤ b) : (l.drop a).take (b - a) ++ (l.drop b).take n = (l.drop a).take (b + n - a) := by
  have e : l.drop b = (l.drop a).drop (b - a) := by rw [List.drop_drop]; congr 1; omega
  rw [e, show b + n - a = (b - a) + n by omega, List.take_add]
theorem bs_ne {l : List UInt8} (h : l ≠ []) : ¬ bs l = ByteArray.empty := by
  intro e; apply h; have := congrArg (fun x : ByteArray => x.data.toList) e; simpa [bs_toList] using this
theorem amp_bs : (⟨#[38]⟩ : ByteArray) = bs [38] := rfl
theorem semi_bs : (⟨#[59]⟩ : ByteArray) = bs [59] := rfl

set_option maxHeartbeats 4000000 in
theorem escape_any (s : ByteArray) (v : Bool) (w : World) (ht : Tabs w) (hs : s.size ≤ 100000) :
    Calls Tryd.prog 29 #[.string s, .bool v] w fun e w' => e = .returned (.string (bs (escL v s.data.toList))) ∧ Below w.heap.size w w' := by
  have HT := hide ht
  have hI0 : BldF w.heap.size w.heap.size [] ((w.alloc (.cells #[.pointer none, .slice none 0 0] 51)).iter s 0) := bldF_alloc (bldF_new w) _
  have hk0 : ((w.alloc (.cells #[.pointer none, .slice none 0 0] 51)).iter s 0).heap[w.heap.size + 1]? = some (.stringIter s 0) := by
    have h5 := World.iter_heap (w.alloc (.cells #[.pointer none, .slice none 0 0] 51)) s 0
    simpa using h5
  have hb0 : Below w.heap.size w ((w.alloc (.cells #[.pointer none, .slice none 0 0] 51)).iter s 0) := ((Below.refl _ w).alloc (Nat.le_refl _) _).alloc (by simp) _
  clear ht
  go_enter Tryd.func29, Tryd.ntmps29
  go_wp2
  go_loopw [6] (fun i wr => ∃ (frm pos : Nat) (acc : List UInt8), frm ≤ pos ∧ pos ≤ s.size ∧ i = .int .i64 (frm : Int) ∧ acc.length ≤ 6 * frm ∧ escL v s.data.toList = acc ++ ((s.data.toList.drop frm).take (pos - frm) ++ escL v (s.data.toList.drop pos)) ∧ wr.heap[w.heap.size + 1]? = some (.stringIter s pos) ∧ BldF w.heap.size w.heap.size acc wr ∧ Below w.heap.size w wr) (fun _ wr => s.size - wr.iterPos (w.heap.size + 1))
  case atStart => exact ⟨0, 0, [], Nat.le_refl _, Nat.zero_le _, rfl, by simp, by simp, hk0, hI0, hb0⟩
  case round =>
    obtain ⟨frm, pos, acc, hfp, hps, rfl, hal, hr, hk, hB, hbw⟩ := hrel
    have HR := hide hr
    have hzw := hbw.size
    clear hr hI0 hk0 hb0
    have hmu : wr.iterPos (w.heap.size + 1) = pos := by simp [World.iterPos, hk]
    have HMU := hide hmu
    clear hmu
    by_cases hp : pos < s.size
    · have hat := esc_at v s pos hp
      have hnx := fun ty => Lib.run_next_any_at (P := Tryd.prog) wr (w.heap.size + 1) s pos ty hk hp
      have hB1 := bldF_iter hB hk (pos + (Utf8.decode s pos).2)
      have hk1 := Lib.iterAt_heap wr (w.heap.size + 1) s pos (pos + (Utf8.decode s pos).2) hk
      have hb1 : Below w.heap.size w (wr.iterAt (w.heap.size + 1) s (pos + (Utf8.decode s pos).2)) := Lib.below_iterAt hbw (by omega) s _
      have CN := hide (fun w => nameFor_any ((Utf8.decode s pos).1 : Int) v w)
      have CB := hide (fun w h hc => bytesC ((Utf8.decode s pos).1 : Int) w h hc)
      have hdl := decode_le s pos
      generalize wr.iterAt (w.heap.size + 1) s (pos + (Utf8.decode s pos).2) = w1 at *
      generalize (Utf8.decode s pos).1 = c at *
      generalize (Utf8.decode s pos).2 = n at *
      generalize forN (c : Int) v = nm at *
      have hz1 := hb1.size
      have hcu := cut_cut s.data.toList frm pos n hfp
      have HCU := hide hcu
      clear hcu
      rcases hat with ⟨hnm, hn1, hn2, he⟩ | ⟨hnm, hn4, hc, hul, hn1, hn2, he⟩
      · subst hnm
        have hem : (bs []).toList.isEmpty = true := is_empty _ rfl
        have HE := hide he
        clear he CB
        go_wp2_with fail
        refine (unhide CN _).mono ?_
        rintro e1 w2 ⟨rfl, rfl⟩
        go_wp2
        go_roundw
        case rel => exact ⟨frm, pos + n, acc, by omega, by omega, rfl, hal, by rw [unhide HR, unhide HE, ← List.append_assoc ((s.data.toList.drop frm).take _), unhide HCU], hk1, hB1, hb1⟩
        case measure =>
          rw [unhide HMU]
          simp [World.iterPos, hk1]; omega
      · have hem : (bs nm).toList.isEmpty = false := not_empty _ (by rw [bs_size]; exact List.length_pos_iff.2 hnm)
        have hns : (bs nm).size ≤ 4 := by rw [bs_size]; exact hn4
        have hcb := cut_ex s frm pos
        have hcz : (s.extract frm pos).size = pos - frm := by simp; omega
        have hx : (s.extract frm pos ++ ⟨#[38]⟩ ++ bs nm ++ ⟨#[59]⟩ : ByteArray).data.toList = (s.data.toList.drop frm).take (pos - frm) ++ ([38] ++ nm ++ [59]) := by
          rw [hcb, amp_bs, semi_bs, bs_bs, bs_bs, bs_bs, bs_toList]; simp
        have hxz : (s.extract frm pos ++ ⟨#[38]⟩ ++ bs nm ++ ⟨#[59]⟩ : ByteArray).size ≤ pos - frm + 6 := by
          rw [ByteArray.size_append, ByteArray.size_append, ByteArray.size_append, hcz]
          show _ + 1 + _ + 1 ≤ _
          omega
        have HX := hide hx
        have HXZ := hide hxz
        have HE := hide he
        have HC := hide (fun w h => unhide CB w h hc)
        have hus : (bs (ub (c : Int))).size = n := by rw [bs_size]; exact hul
        clear he hx hxz hcb CB hul
        go_wp2_with fail
        refine (unhide CN _).mono ?_
        rintro e1 w2 ⟨rfl, rfl⟩
        go_wp2_with fail
        refine (writeStringK _ _ _ _ _ hB1 (by have := unhide HXZ; omega) (by omega)).mono ?_
        rintro e1 w3 ⟨rfl, hB3, hb3, ho3⟩
        rw [unhide HX] at hB3
        have hk3 := oth_iter ho3 hk1 (by omega)
        have hb13 := hb1.trans hb3
        have hz3 := hb13.size
        go_wp2_with fail
        refine (unhide HC _ ((unhide HT).below hb13)).mono ?_
        rintro e1 w4 ⟨rfl, hb4⟩
        have hB4 := bldF_below hB3 hb4
        have hk4 := iter_keeps hb4 hk3
        go_wp2
        go_roundw
        case rel => exact ⟨pos + n, pos + n, _, Nat.le_refl _, by omega, by first | rfl | go_num, by simp; omega, by rw [unhide HR, unhide HE]; simp, hk4, hB4, hb13.trans (hb4.mono hz3)⟩
        case measure =>
          rw [unhide HMU]
          simp [World.iterPos, hk4]; omega
    · have hnx := fun ty => Lib.run_next_end_at (P := Tryd.prog) wr (w.heap.size + 1) s pos ty hk hp
      have hf : escL v s.data.toList = acc ++ (s.extract frm s.size).data.toList := by
        have hdn : s.data.toList.drop pos = [] := List.drop_eq_nil_of_le (by rw [data_len]; omega)
        rw [unhide HR, cut_ex, bs_toList, hdn]
        have : escL v [] = [] := by simp [escL, escS]
        rw [this, List.append_nil, show pos - frm = s.size - frm by omega]
      have hxz : (s.extract frm s.size).size ≤ s.size := by simp
      have HF := hide hf
      clear hf
      go_wp2_with fail
      refine (writeStringK _ _ _ _ _ hB (by omega) (by omega)).mono ?_
      rintro e1 w3 ⟨rfl, hB3, hb3, ho3⟩
      have hb13 := hbw.trans hb3
      have hz3 := hb13.size
      rw [← unhide HF] at hB3
      go_wp2_with fail
      refine (stringK _ _ _ _ hB3 (by omega)).mono ?_
      rintro e1 w4 ⟨rfl, hb4⟩
      go_wp2
      go_ret
      exact ⟨rfl, hb13.trans hb4⟩
end Go.Proofs.YtmiehnknnkcdlacDoor
