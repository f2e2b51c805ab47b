/-
  What the reference's Wrong, Plain and Open of layer 6 do.
-/
import Derived.Test.YtmiehnknnkcdlacDoorPOd
import Derived.Test.YtmiehnknnkcdlacDoorPOq
namespace Go.Proofs.YtmiehnknnkcdlacDoor
open Go.RowKit
set_option linter.unusedVariables false

theorem wrong_1 {n : List UInt8} {ats : List (ByteArray × ByteArray)} (h : nameB n = false) : wrongN n ats = 4 := by unfold wrongN; rw [h]; rfl
theorem wrong_2 {n : List UInt8} {ats : List (ByteArray × ByteArray)} (h : rightAs ats = false) : wrongN n ats = 4 := by unfold wrongN; rw [h, Bool.and_false]; rfl
theorem wrong_3 {n : List UInt8} {ats : List (ByteArray × ByteArray)} (h1 : nameB n = true) (h2 : rightAs ats = true) (h3 : dupF ats ats.length = true) : wrongN n ats = 8 := by
  rw [diff_dup] at h3
  unfold wrongN; rw [h1, h2, if_neg (by decide), if_pos (of_decide_eq_true h3)]
theorem wrong_4 {n : List UInt8} {ats : List (ByteArray × ByteArray)} (h1 : nameB n = true) (h2 : rightAs ats = true) (h3 : dupF ats ats.length = false) (h4 : 12 < ats.length) : wrongN n ats = 2 := by
  rw [diff_dup] at h3
  unfold wrongN; rw [h1, h2, if_neg (by decide), if_neg (of_decide_eq_false h3), if_pos h4]
theorem wrong_0 {n : List UInt8} {ats : List (ByteArray × ByteArray)} (h1 : nameB n = true) (h2 : rightAs ats = true) (h3 : dupF ats ats.length = false) (h4 : ¬ 12 < ats.length) : wrongN n ats = 0 := by
  rw [diff_dup] at h3
  unfold wrongN; rw [h1, h2, if_neg (by decide), if_neg (of_decide_eq_false h3), if_neg h4]

set_option maxHeartbeats 8000000 in
set_option maxRecDepth 100000 in
theorem rwrong_any (n : ByteArray) (ats : List (ByteArray × ByteArray)) (g o cap : Nat) (w : World) (hc : Cells2 g o ats w) (hf : Fits ats) (hn : n.size ≤ 10000) :
    Calls Tryd.prog 31 #[.string n, .slice (some ⟨g, o, none⟩) ats.length cap] w fun e w' => e = .returned (.int .i64 (wrongN n.data.toList ats)) ∧ Below w.heap.size w w' := by
  have HC := hide hc
  have HF := hide hf
  have hlen : ats.length ≤ 1000 := hf.1
  have CN := hide (fun w => rname6_any n w (by omega))
  have W1 := hide (@wrong_1 n.data.toList ats)
  have W2 := hide (@wrong_2 n.data.toList ats)
  have W3 := hide (@wrong_3 n.data.toList ats)
  have W4 := hide (@wrong_4 n.data.toList ats)
  have W0 := hide (@wrong_0 n.data.toList ats)
  have NO := hide (fun k h hk => rightF_no ats (k := k) h ats.length hk)
  clear hc hf
  generalize wrongN n.data.toList ats = wn at *
  cases hnb : nameB n.data.toList with
  | false =>
    rw [hnb] at CN
    have HV := hide (unhide W1 hnb)
    clear hnb
    go_enter Tryd.func31, Tryd.ntmps31
    go_wp2_with fail
    refine (unhide CN _).mono ?_
    rintro e w1 ⟨rfl, rfl⟩
    go_wp2
    go_ret
    exact ⟨by rw [unhide HV]; rfl, Below.refl _ _⟩
  | true =>
    rw [hnb] at CN
    have HNB := hide hnb
    clear hnb W1
    go_enter Tryd.func31, Tryd.ntmps31
    go_wp2_with fail
    refine (unhide CN _).mono ?_
    rintro e w1 ⟨rfl, hw1⟩
    obtain rfl : w = w1 := hw1.symm
    go_wp2
    go_loopw [16] (fun i wr => ∃ k : Nat, k ≤ ats.length ∧ i = .int .i64 k ∧ rightF ats k = true ∧ Below w.heap.size w wr) (fun i _ => ats.length - (intOf i).toNat)
    case atStart => exact ⟨0, Nat.zero_le _, rfl, rfl, Below.refl _ _⟩
    case round =>
      obtain ⟨k, hk, rfl, hr, hbw⟩ := hrel
      have HR := hide hr
      have hzw := hbw.size
      clear hr
      by_cases hp : k < ats.length
      · have hpi : (k : Int) < (ats.length : Int) := by omega
        obtain ⟨c1, c2⟩ := (unhide HC).below hbw k hp
        have CM := hide (fun w => rname6_any (an ats k) w (by have := (unhide HF).2 k hp; omega))
        have CG := hide (fun w => rgood6_any (av ats k) w (by have := (unhide HF).2 k hp; omega))
        have hra : rightAt ats k = (nameB (an ats k).data.toList && goodB (av ats k).data.toList) := rfl
        have NK := hide (fun h => unhide NO k h hp)
        have HRA := hide hra
        clear hra
        generalize nameB (an ats k).data.toList = nb at *
        generalize goodB (av ats k).data.toList = gb at *
        generalize an ats k = a1 at *
        generalize av ats k = a2 at *
        have hbA : Below wr.heap.size wr (wr.alloc (.cells #[.string a1, .string a2] 47)) := (Below.refl _ _).alloc (Nat.le_refl _) _
        have hbA' := tr2 hbw hbA
        cases nb with
        | false =>
          rw [Bool.false_and] at HRA
          have HV := hide (unhide W2 (unhide NK (unhide HRA)))
          go_wp2_with fail
          refine (unhide CM _).mono ?_
          rintro e w2 ⟨rfl, rfl⟩
          go_wp2
          go_ret
          exact ⟨by rw [unhide HV]; rfl, hbA'⟩
        | true =>
          rw [Bool.true_and] at HRA
          cases gb with
          | false =>
            have HV := hide (unhide W2 (unhide NK (unhide HRA)))
            go_wp2_with fail
            refine (unhide CM _).mono ?_
            rintro e w2 ⟨rfl, rfl⟩
            go_wp2_with fail
            refine (unhide CG _).mono ?_
            rintro e w3 ⟨rfl, hb3⟩
            go_wp2
            go_ret
            exact ⟨by rw [unhide HV]; rfl, tr2 hbA' hb3⟩
          | true =>
            go_wp2_with fail
            refine (unhide CM _).mono ?_
            rintro e w2 ⟨rfl, rfl⟩
            go_wp2_with fail
            refine (unhide CG _).mono ?_
            rintro e w3 ⟨rfl, hb3⟩
            have hb13 := tr2 hbA' hb3
            go_wp2
            go_roundw
            case rel => exact ⟨k + 1, by omega, by go_num, by rw [rightF, unhide HR, unhide HRA]; rfl, hb13⟩
            case measure => simp [intOf]; omega
      · have hke : k = ats.length := by omega
        have hrt : rightAs ats = true := by unfold rightAs; rw [← hke]; exact unhide HR
        have HRT := hide hrt
        have HBW := hide hbw
        clear hrt HR NO W2 hbw
        go_wp2
        go_loopw [33] (fun i wx => ∃ m : Nat, m ≤ ats.length ∧ i = .int .i64 m ∧ dupF ats m = false ∧ Below w.heap.size w wx) (fun i _ => ats.length - (intOf i).toNat)
        case atStart => exact ⟨0, Nat.zero_le _, rfl, rfl, unhide HBW⟩
        case round =>
          obtain ⟨m, hm, rfl, hd, hbx⟩ := hrel
          have HD := hide hd
          have hzx := hbx.size
          clear hd
          by_cases hq : m < ats.length
          · have hqi : (m : Int) < (ats.length : Int) := by omega
            obtain ⟨c1, c2⟩ := (unhide HC).below hbx m hq
            have hdm := @dup_more ats m
            have hsn := fun k h => @seen_more ats m k h
            have hdF : dupF ats (m + 1) = (dupF ats m || seenF ats m m) := rfl
            obtain ⟨a1, ha1⟩ : ∃ a, an ats m = a := ⟨_, rfl⟩
            obtain ⟨a2, ha2⟩ : ∃ a, av ats m = a := ⟨_, rfl⟩
            rw [ha1] at c1
            rw [ha2] at c2
            have HA1 := hide ha1
            have HDM := hide hdm
            have HSN := hide hsn
            have HDF := hide hdF
            clear ha1 ha2 hdm hsn hdF
            have hbA : Below wr.heap.size wr (wr.alloc (.cells #[.string a1, .string a2] 47)) := (Below.refl _ _).alloc (Nat.le_refl _) _
            have hbA' := tr2 hbx hbA
            have k0 : (wr.alloc (.cells #[.string a1, .string a2] 47)).cell? ⟨wr.heap.size, 0, none⟩ = some (.string a1) := World.cell?_alloc_at _ _ _ _ rfl
            have K0 := hide k0
            have HBA := hide hbA'
            clear k0 hbA' hbA
            go_wp2
            generalize wr.alloc (.cells #[.string a1, .string a2] 47) = wy at *
            generalize wr.heap.size = ga at *
            go_loopw [40] (fun j wz => ∃ q : Nat, q ≤ ats.length ∧ j = .int .i64 q ∧ (q ≤ m → seenF ats m q = false) ∧ (m < q → seenF ats m m = false) ∧ Below wy.heap.size wy wz) (fun j _ => ats.length - (intOf j).toNat)
            case atStart => exact ⟨0, Nat.zero_le _, rfl, fun _ => rfl, fun h => by omega, Below.refl _ _⟩
            case round =>
              obtain ⟨q, hq2, rfl, hs1, hs2, hbz⟩ := hrel
              have HS1 := hide hs1
              have HS2 := hide hs2
              have hzz := hbz.size
              have hb0z := tr2 (unhide HBA) hbz
              clear hs1 hs2
              by_cases hq3 : q < ats.length
              · have hq3i : (q : Int) < (ats.length : Int) := by omega
                obtain ⟨d1, d2⟩ := (unhide HC).below hb0z q hq3
                have k0 := cell_later hbz (unhide K0)
                have hsF : seenF ats m (q + 1) = (seenF ats m q || decide (an ats q = an ats m)) := rfl
                have hbB : Below wr.heap.size wr (wr.alloc (.cells #[.string (an ats q), .string (av ats q)] 47)) := (Below.refl _ _).alloc (Nat.le_refl _) _
                have hgz : ga < wr.heap.size := by
                  rcases Nat.lt_or_ge ga wr.heap.size with h | h
                  · exact h
                  · exfalso
                    unfold World.cell? at k0
                    rw [Array.getElem?_eq_none h] at k0; simp at k0
                by_cases hqm : q < m
                · have hqmi : (q : Int) < (m : Int) := by omega
                  by_cases heq : an ats q = an ats m
                  · have hv := unhide W3 (unhide HNB) (unhide HRT) (unhide HDM (unhide HSN q heq m hqm) ats.length hq)
                    have HV := hide hv
                    have hee : a1 = an ats q := (heq.trans (unhide HA1)).symm
                    have hb2 := beq_yes hee
                    clear hv heq hee hsF
                    generalize an ats q = b1 at *
                    generalize av ats q = b2 at *
                    go_wp2
                    go_ret
                    exact ⟨by rw [unhide HV]; rfl, tr2 hb0z hbB⟩
                  · have hne : ¬ an ats q = a1 := fun h => heq (h.trans (unhide HA1).symm)
                    have hne' : ¬ a1 = an ats q := fun h => hne h.symm
                    have hb2 := beq_no hne'
                    have hsf2 : seenF ats m (q + 1) = false := by rw [hsF, unhide HS1 (by omega), decide_eq_false heq]; rfl
                    have HSF := hide hsf2
                    clear hsF hsf2 heq hne hne'
                    generalize an ats q = b1 at *
                    generalize av ats q = b2 at *
                    go_wp2
                    go_roundw
                    case rel => exact ⟨q + 1, by omega, by go_num, fun _ => unhide HSF, fun h => by omega, tr2 hbz hbB⟩
                    case measure => simp [intOf]; omega
                · have hqmi : decide ((q : Int) < (m : Int)) = false := decide_eq_false (by omega)
                  have hsm : seenF ats m m = false := by
                    by_cases e : q = m
                    · have := unhide HS1 (by omega); rw [e] at this; exact this
                    · exact unhide HS2 (by omega)
                  have HSM := hide hsm
                  clear hsm hsF
                  generalize an ats q = b1 at *
                  generalize av ats q = b2 at *
                  go_wp2
                  go_roundw
                  case rel => exact ⟨q + 1, by omega, by go_num, fun h => by omega, fun _ => unhide HSM, tr2 hbz hbB⟩
                  case measure => simp [intOf]; omega
              · have hdn : dupF ats (m + 1) = false := by rw [unhide HDF, unhide HD, unhide HS2 (by omega)]; rfl
                have HDN := hide hdn
                clear hdn
                go_wp2
                go_roundw
                case rel => exact ⟨m + 1, by omega, by go_num, unhide HDN, hb0z⟩
                case measure => simp [intOf]; omega
          · have hme : m = ats.length := by omega
            have hdl : dupF ats ats.length = false := by rw [← hme]; exact unhide HD
            by_cases h12 : 12 < ats.length
            · have hi : (12 : Int) < (ats.length : Int) := by omega
              have HV := hide (unhide W4 (unhide HNB) (unhide HRT) hdl h12)
              clear hdl
              go_wp2
              go_ret
              exact ⟨by rw [unhide HV]; rfl, hbx⟩
            · have hi : ¬ (12 : Int) < (ats.length : Int) := by omega
              have HV := hide (unhide W0 (unhide HNB) (unhide HRT) hdl h12)
              clear hdl
              go_wp2
              go_ret
              exact ⟨by rw [unhide HV]; rfl, hbx⟩

set_option maxHeartbeats 8000000 in
set_option maxRecDepth 100000 in
theorem rplain_any (n : ByteArray) (ats : List (ByteArray × ByteArray)) (g o cap : Nat) (w : World) (hc : Cells2 g o ats w) (hf : Fits ats) (hn : n.size ≤ 10000) :
    Calls Tryd.prog 32 #[.string n, .slice (some ⟨g, o, none⟩) ats.length cap] w fun e w' => e = .returned (.string (bs (openL n.data.toList ats))) ∧ Below w.heap.size w w' := by
  have HC := hide hc
  have HF := hide hf
  have hlen : ats.length ≤ 1000 := hf.1
  have h60 : (⟨#[60]⟩ : ByteArray) ++ n = bs ([60] ++ n.data.toList) := by
    have : (⟨#[60]⟩ : ByteArray) = bs [60] := rfl
    rw [this, bs_add]
  clear hc hf
  go_enter Tryd.func32, Tryd.ntmps32
  go_wp2
  go_loopw [5, 12] (fun x i wr => ∃ k : Nat, k ≤ ats.length ∧ i = .int .i64 k ∧ x = .string (bs ([60] ++ n.data.toList ++ attL ats k)) ∧ (attL ats k).length ≤ 80000 * k ∧ Below w.heap.size w wr) (fun _ i _ => ats.length - (intOf i).toNat)
  case atStart => exact ⟨0, Nat.zero_le _, rfl, by rw [attL, List.append_nil]; rfl, by simp [attL], Below.refl _ _⟩
  case round =>
    obtain ⟨k, hk, rfl, rfl, hal, hbw⟩ := hrel
    have hzw := hbw.size
    have hxz : (bs ([60] ++ n.data.toList ++ attL ats k)).size ≤ 80010001 := by
      rw [bs_size, List.length_append, List.length_append, data_len]; simp; omega
    by_cases hp : k < ats.length
    · have hpi : (k : Int) < (ats.length : Int) := by omega
      obtain ⟨c1, c2⟩ := (unhide HC).below hbw k hp
      have hft := (unhide HF).2 k hp
      have CE := hide (fun w => rescape_any (av ats k) true w (by omega))
      have hel := esc_len true (av ats k).data.toList false
      rw [data_len] at hel
      have hab : ∀ X : ByteArray, X ++ ⟨#[32]⟩ ++ an ats k ++ ⟨#[61, 34]⟩ ++ bs (escL true (av ats k).data.toList) ++ ⟨#[34]⟩ = X ++ bs (attB (an ats k).data.toList (av ats k).data.toList) := fun X => by
        have := att_bs (an ats k) (bs (escL true (av ats k).data.toList))
        rw [bs_toList] at this
        unfold attB
        rw [← this]
        simp only [ByteArray.append_assoc]
      have habz : (attB (an ats k).data.toList (av ats k).data.toList).length ≤ 80000 := by
        unfold attB
        have : (escL true (av ats k).data.toList).length ≤ 6 * (av ats k).size := hel
        simp; omega
      have esz : (bs (escL true (av ats k).data.toList)).size ≤ 60000 := by
        rw [bs_size]
        have : (escL true (av ats k).data.toList).length ≤ 6 * (av ats k).size := hel
        omega
      have hatt : bs ([60] ++ n.data.toList ++ attL ats (k + 1)) = bs ([60] ++ n.data.toList ++ attL ats k) ++ bs (attB (an ats k).data.toList (av ats k).data.toList) := by
        rw [bs_bs, attL, List.append_assoc, List.append_assoc, List.append_assoc]
      have hatl : (attL ats (k + 1)).length ≤ 80000 * (k + 1) := by rw [attL, List.length_append]; omega
      have HAB := hide (hab (bs ([60] ++ n.data.toList ++ attL ats k)))
      have HATT := hide hatt
      have HATL := hide hatl
      clear hab hatt hatl hel
      generalize attB (an ats k).data.toList (av ats k).data.toList = ab at *
      generalize bs (escL true (av ats k).data.toList) = E at *
      generalize an ats k = a1 at *
      generalize av ats k = a2 at *
      generalize hX : bs ([60] ++ n.data.toList ++ attL ats k) = X at *
      clear hX
      have hbA : Below wr.heap.size wr (wr.alloc (.cells #[.string a1, .string a2] 47)) := (Below.refl _ _).alloc (Nat.le_refl _) _
      have hbA' := tr2 hbw hbA
      go_wp2_with fail
      go_quiet ((go_at_call 40; exact Calls.quiet_of_same (unhide CE _)))
      go_wp2
      go_roundw
      case rel => exact ⟨k + 1, by omega, by go_num, by rw [unhide HATT, ← unhide HAB], unhide HATL, below_drewN hbA' _⟩
      case measure => simp [intOf]; omega
    · have hke : k = ats.length := by omega
      subst hke
      have hol : bs ([60] ++ n.data.toList ++ attL ats ats.length) ++ ⟨#[62]⟩ = bs (openL n.data.toList ats) := by
        have : (⟨#[62]⟩ : ByteArray) = bs [62] := rfl
        rw [this, bs_bs]; unfold openL; simp
      have HOL := hide hol
      clear hol
      generalize hX : bs ([60] ++ n.data.toList ++ attL ats ats.length) = X at *
      clear hX
      go_wp2
      go_ret
      exact ⟨by rw [← unhide HOL]; rfl, hbw⟩

theorem openV_0 {n : List UInt8} {ats : List (ByteArray × ByteArray)} (h : wrongN n ats = 0) : openV n ats = .tuple #[.string (bs (openL n ats)), .int .i64 0] := by unfold openV; rw [h]; rfl
theorem openV_1 {n : List UInt8} {ats : List (ByteArray × ByteArray)} (h : ¬ wrongN n ats = 0) : openV n ats = .tuple #[.string ⟨#[]⟩, .int .i64 (wrongN n ats)] := by unfold openV; rw [if_neg h]
set_option maxHeartbeats 2000000 in
theorem ropen_any (n : ByteArray) (ats : List (ByteArray × ByteArray)) (g o cap : Nat) (w : World) (hc : Cells2 g o ats w) (hf : Fits ats) (hn : n.size ≤ 10000) :
    Calls Tryd.prog 11 #[.string n, .slice (some ⟨g, o, none⟩) ats.length cap] w fun e w' => e = .returned (openV n.data.toList ats) ∧ Below w.heap.size w w' := by
  have HC := hide hc
  have CW := hide (rwrong_any n ats g o cap w hc hf hn)
  have CP := hide (fun w h => rplain_any n ats g o cap w h hf hn)
  by_cases h0 : wrongN n.data.toList ats = 0
  · rw [openV_0 h0]
    rw [h0] at CW
    generalize bs (openL n.data.toList ats) = y at *
    clear hc hf h0
    go_enter Tryd.func11, Tryd.ntmps11
    go_wp2_with fail
    refine (unhide CW).mono ?_
    rintro e w1 ⟨rfl, hb1⟩
    go_wp2_with fail
    refine (unhide CP _ ((unhide HC).below hb1)).mono ?_
    rintro e w2 ⟨rfl, hb2⟩
    go_wp2
    go_ret2
    exact ⟨rfl, tr2 hb1 hb2⟩
  · rw [openV_1 h0]
    generalize wrongN n.data.toList ats = wn at *
    have hne : (wn == 0) = false := beq_eq_false_iff_ne.2 h0
    have hne' : (wn != 0) = true := by simpa using h0
    clear hc hf h0
    go_enter Tryd.func11, Tryd.ntmps11
    go_wp2_with fail
    refine (unhide CW).mono ?_
    rintro e w1 ⟨rfl, hb1⟩
    go_wp2
    go_ret2
    exact ⟨rfl, hb1⟩
end Go.Proofs.YtmiehnknnkcdlacDoor
