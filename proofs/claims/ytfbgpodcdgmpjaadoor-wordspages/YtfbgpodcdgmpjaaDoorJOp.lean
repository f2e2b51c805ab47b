/-
  What 'print.Open' and the reference's Open of layer 13 do (made by mk_jop.py).
-/
import Derived.Test.YtfbgpodcdgmpjaaDoorMgBB
import Derived.Test.YtfbgpodcdgmpjaaDoorYFo
import Derived.Test.YtfbgpodcdgmpjaaDoorMgAY
import Derived.Deep.RegionHeld
namespace Go.Proofs.YtfbgpodcdgmpjaaDoor
open Go.RowKit
set_option linter.unusedVariables false
set_option linter.unusedSimpArgs false

def opL (k : Int) (n : List UInt8) (ats : List (ByteArray × ByteArray)) : List UInt8 := if k = 1 then openL n ats else []
theorem att1_len {ats : List (ByteArray × ByteArray)} (hf : Fits ats) (k : Nat) (h : k < ats.length) : (attB (an ats k).data.toList (av ats k).data.toList).length ≤ 80000 := by
  have h2 := hf.2 k h
  have hel := esc_len true (av ats k).data.toList false
  rw [data_len] at hel
  have : (escL true (av ats k).data.toList).length ≤ 6 * (av ats k).size := hel
  have h3 := data_len (an ats k)
  unfold attB
  simp
  omega
theorem att_len {ats : List (ByteArray × ByteArray)} (hf : Fits ats) : ∀ k, k ≤ ats.length → (attL ats k).length ≤ 80000 * k
  | 0, _ => by simp [attL]
  | k + 1, h => by
    have h1 := att_len hf k (by omega)
    have h2 := att1_len hf k (by omega)
    rw [attL, List.length_append]
    omega
theorem oth_cells {b k : Nat} {w w' : World} {c : Array Value} (h : Oth b w w') (hk : Blk w k c 49) (hkb : k ≠ b) : Blk w' k c 49 :=
  h k _ hk (fun e => hkb (by injection e)) (fun c' fz e => by injection e with _ e; revert e; decide)
set_option maxHeartbeats 1000000 in
set_option maxRecDepth 100000 in
theorem jopen_no (k sp : Int) (n tx : ByteArray) (q qk : Option Addr) (al c kl ck : Nat) (w : World) (hk : ¬ k = 1) :
    Calls Tryd.prog 45 #[.agg #[.int .i64 k, .int .i64 sp, .string n, .slice q al c, .string tx, .slice qk kl ck]] w fun e w' => e = .returned (.string ⟨#[]⟩) ∧ Below w.heap.size w w' := by
  have e1 : (k != 1) = true := by simpa using hk
  have hbA := (Below.refl w.heap.size w).alloc (Nat.le_refl _) (Obj.cells #[.int .i64 k, .int .i64 sp, .string n, .slice q al c, .string tx, .slice qk kl ck] 47)
  have HB := hide hbA
  clear hbA hk
  go_enter Tryd.func45, Tryd.ntmps45
  go_wp2
  go_ret
  exact ⟨rfl, unhide HB⟩
theorem bldF_blk' {B b : Nat} {l : List UInt8} {w : World} (h : BldF B b l w) : ∃ c, w.heap[b]? = some (.cells c 75 (0, 0)) := by
  rcases h with ⟨_, v, hbk, _⟩ | ⟨_, v, hbk, _⟩
  · exact ⟨_, hbk⟩
  · exact ⟨_, hbk⟩
def KeepO (ga : Nat) (a1 a2 : ByteArray) (W : World) : Prop := W.cell? ⟨ga, 0, none⟩ = some (.string a1) ∧ W.cell? ⟨ga, 1, none⟩ = some (.string a2)
set_option maxHeartbeats 1000000 in
set_option maxRecDepth 100000 in
theorem jopen_yes (sp : Int) (n : ByteArray) (ats : List (ByteArray × ByteArray)) (tx : ByteArray) (q qk : Option Addr) (c kl ck : Nat) (w : World) (ht : Tabs w) (hs : Sl q ats w) (hf : Fits ats) (hn : n.size ≤ 10000) :
    Calls Tryd.prog 45 #[.agg #[.int .i64 1, .int .i64 sp, .string n, .slice q ats.length c, .string tx, .slice qk kl ck]] w fun e w' => e = .returned (.string (bs (openL n.data.toList ats))) ∧ Below w.heap.size w w' := by
  have hlen : ats.length ≤ 1000 := hf.1
  have HT := hide ht
  have HS := hide hs
  have HF := hide hf
  have hbA := (Below.refl w.heap.size w).alloc (Nat.le_refl _) (Obj.cells #[.int .i64 1, .int .i64 sp, .string n, .slice q ats.length c, .string tx, .slice qk kl ck] 47)
  have hA := Blk.new w #[.int .i64 1, .int .i64 sp, .string n, .slice q ats.length c, .string tx, .slice qk kl ck] 47
  have hz : (w.alloc (Obj.cells #[.int .i64 1, .int .i64 sp, .string n, .slice q ats.length c, .string tx, .slice qk kl ck] 47)).heap.size = w.heap.size + 1 := by simp
  have BN := bldF_new (w.alloc (Obj.cells #[.int .i64 1, .int .i64 sp, .string n, .slice q ats.length c, .string tx, .slice qk kl ck] 47))
  rw [hz] at BN
  have hbB : Below (w.alloc (Obj.cells #[.int .i64 1, .int .i64 sp, .string n, .slice q ats.length c, .string tx, .slice qk kl ck] 47)).heap.size (w.alloc (Obj.cells #[.int .i64 1, .int .i64 sp, .string n, .slice q ats.length c, .string tx, .slice qk kl ck] 47)) ((w.alloc (Obj.cells #[.int .i64 1, .int .i64 sp, .string n, .slice q ats.length c, .string tx, .slice qk kl ck] 47)).alloc (Obj.cells #[.pointer none, .slice none 0 0] 75)) := (Below.refl _ _).alloc (Nat.le_refl _) _
  have HX := hide (And.intro BN (And.intro (hA.later hbB) (And.intro (tr2 hbA hbB) (show w.heap.size + 1 ≤ ((w.alloc (Obj.cells #[.int .i64 1, .int .i64 sp, .string n, .slice q ats.length c, .string tx, .slice qk kl ck] 47)).alloc (Obj.cells #[.pointer none, .slice none 0 0] 75)).heap.size by simp))))
  have hsz1 : (⟨#[60]⟩ ++ n : ByteArray).size = n.size + 1 := by rw [ByteArray.size_append]; show 1 + _ = _; omega
  have hdt1 : (⟨#[60]⟩ ++ n : ByteArray).data.toList = [60] ++ n.data.toList := by simp
  clear ht hs hf hbA hA hbB BN hz
  go_enter Tryd.func45, Tryd.ntmps45
  go_wp2_with fail
  refine calls_from (fun W => BldF (w.heap.size + 1) (w.heap.size + 1) [] W ∧ Blk W w.heap.size #[.int .i64 1, .int .i64 sp, .string n, .slice q ats.length c, .string tx, .slice qk kl ck] 47 ∧ Below w.heap.size w W ∧ w.heap.size + 1 ≤ W.heap.size) (unhide HX) ?_
  rintro w1 ⟨B1, hA1, hb1, hz1⟩
  clear HX
  have hwb : Hid (w.heap.size < w.heap.size + 1) := hide (by omega)
  generalize w.heap.size + 1 = b at *
  refine (writeStringK b b [] _ w1 B1 (by rw [hsz1]; simp; omega) hz1).mono ?_
  rintro e w4 ⟨rfl, B4, hb4, ho4⟩
  rw [hdt1] at B4
  simp only [List.nil_append] at B4
  have m3 : w4.cell? ⟨w.heap.size, 3, none⟩ = some (.slice q ats.length c) := (hA1.below hb4 (unhide hwb)).cell 3
  have HB4 := hide B4
  have HBW := hide (hb1.trans (hb4.mono (Nat.le_of_lt (unhide hwb))))
  have HZ4 := hide (Nat.le_trans hz1 hb4.size)
  clear B4 hb4 ho4 hb1 B1 hA1 hsz1 hdt1
  go_wp2
  go_loopw [16] (fun i wr => ∃ k : Nat, k ≤ ats.length ∧ i = .int .i64 k ∧ BldF b b ([60] ++ n.data.toList ++ attL ats k) wr ∧ Below w.heap.size w wr ∧ b ≤ wr.heap.size) (fun i _ => ats.length - (intOf i).toNat)
  case atStart => exact ⟨0, Nat.zero_le _, rfl, by rw [attL, List.append_nil]; exact unhide HB4, unhide HBW, unhide HZ4⟩
  case round =>
    obtain ⟨k, hk, rfl, hB, hbw, hbz⟩ := hrel
    have hal := att_len (unhide HF) k hk
    have hdl := data_len n
    by_cases hp : k < ats.length
    · have hpi : (k : Int) < (ats.length : Int) := by omega
      have hki : (k : Int) ≤ 1000 := by omega
      have hsl := (unhide HS).below hbw
      rcases hsl with h0 | ⟨g, o, rfl, hc2⟩
      · rw [h0] at hp; simp at hp
      obtain ⟨c1, c2⟩ := hc2 k hp
      have hft := (unhide HF).2 k hp
      have CE := hide (fun w h => escape_any (av ats k) true w h (by omega))
      have hel := esc_len true (av ats k).data.toList false
      rw [data_len] at hel
      have hatt : attL ats (k + 1) = attL ats k ++ attB (an ats k).data.toList (av ats k).data.toList := rfl
      have hab : (⟨#[32]⟩ ++ an ats k ++ ⟨#[61, 34]⟩ ++ bs (escL true (av ats k).data.toList) ++ ⟨#[34]⟩ : ByteArray) = bs (attB (an ats k).data.toList (av ats k).data.toList) := by
        rw [att_bs, bs_toList]; rfl
      have habz := att1_len (unhide HF) k hp
      have esz : (bs (escL true (av ats k).data.toList)).size ≤ 60000 := by
        rw [bs_size]
        have : (escL true (av ats k).data.toList).length ≤ 6 * (av ats k).size := hel
        omega
      have hl1 : ([60] ++ n.data.toList ++ attL ats k).length + (bs (attB (an ats k).data.toList (av ats k).data.toList)).size ≤ 140737488355328 := by
        rw [List.length_append, List.length_append, data_len, bs_size]; simp; omega
      have HATT := hide hatt
      have HAB := hide hab
      clear hab hatt hel habz
      generalize attB (an ats k).data.toList (av ats k).data.toList = ab at *
      generalize bs (escL true (av ats k).data.toList) = E at *
      generalize an ats k = a1 at *
      generalize av ats k = a2 at *
      have hbA : Below wr.heap.size wr (wr.alloc (.cells #[.string a1, .string a2] 49)) := (Below.refl _ _).alloc (Nat.le_refl _) _
      have hd0 : Below (wr.alloc (.cells #[.string a1, .string a2] 49)).heap.size (wr.alloc (.cells #[.string a1, .string a2] 49)) (wr.alloc (.cells #[.string a1, .string a2] 49)).drew := below_draws _ 1
      have K0 := hide ((Blk.new wr #[.string a1, .string a2] 49).later hd0)
      have HD0 := hide (tr2 hbA hd0)
      have HBX := hide (bldF_below hB (tr2 hbA hd0))
      have hbX := tr2 (tr2 hbw hbA) hd0
      have HTX := hide ((unhide HT).below hbX)
      have HBW := hide hbX
      have hzb : Hid (b ≤ (wr.alloc (.cells #[.string a1, .string a2] 49)).drew.heap.size) := hide (Nat.le_trans hbz (tr2 hbA hd0).size)
      have hgb : Hid (wr.heap.size ≠ b) := hide (by
        obtain ⟨cc, hcc⟩ := bldF_blk' hB
        have := Blk.lt (w := wr) hcc
        omega)
      have z1 : ¬ 9223372036854775807 < 1 + a1.size := by omega
      have z2 : ¬ 9223372036854775807 < 1 + a1.size + 2 := by omega
      have z3 : ¬ 9223372036854775807 < 1 + a1.size + 2 + E.size := by omega
      have z4 : ¬ 9223372036854775807 < 1 + a1.size + 2 + E.size + 1 := by omega
      clear hB hbw hbA hd0 hbX hc2
      go_wp2_with fail
      have hSa : KeepO wr.heap.size a1 a2 (wr.alloc (.cells #[.string a1, .string a2] 49)).drew := ⟨(unhide K0).cell 0, (unhide K0).cell 1⟩
      refine wp_region_held (S := KeepO wr.heap.size a1 a2) (by kernel_rfl) ?_
      change wpAnyH _ _ _ _ _ _ _ _ (World.drew _)
      refine wpAnyH_take (i := 0) (oi := { dst := some 20, op := _, type := _, pos := _, after := _, guard := _ }) (v := ?va0_1) rfl (by kernel_rfl) (by kernel_rfl) (by kernel_rfl) (fun _ _ _ h => h) (Or.inl ⟨by kernel_rfl, ?ha0_1⟩) hSa ?ra0_1
      case ha0_1 => first | (intro w hSw; obtain ⟨s0, s1⟩ := hSw; go_simp; done) | (intro w hSw; obtain ⟨s0, s1⟩ := hSw; go_simp; with_reducible rfl)
      try simp only [Act.put, List.setIfInBounds_toArray, List.set_cons_zero, List.set_cons_succ]
      refine wpAnyH_take (i := 1) (oi := { dst := some 21, op := _, type := _, pos := _, after := _, guard := _ }) (v := ?va1_2) rfl (by kernel_rfl) (by kernel_rfl) (by kernel_rfl) (fun _ _ _ h => h) (Or.inl ⟨by kernel_rfl, ?ha1_2⟩) hSa ?ra1_2
      case ha1_2 => first | (intro w hSw; obtain ⟨s0, s1⟩ := hSw; go_simp; done) | (intro w hSw; obtain ⟨s0, s1⟩ := hSw; go_simp; with_reducible rfl)
      try simp only [Act.put, List.setIfInBounds_toArray, List.set_cons_zero, List.set_cons_succ]
      refine wpAnyH_take (i := 2) (oi := { dst := some 22, op := _, type := _, pos := _, after := _, guard := _ }) (v := ?va2_3) rfl (by kernel_rfl) (by kernel_rfl) (by kernel_rfl) (fun _ _ _ h => h) (Or.inl ⟨by kernel_rfl, ?ha2_3⟩) hSa ?ra2_3
      case ha2_3 => first | (intro w hSw; obtain ⟨s0, s1⟩ := hSw; go_simp; done) | (intro w hSw; obtain ⟨s0, s1⟩ := hSw; go_simp; with_reducible rfl)
      try simp only [Act.put, List.setIfInBounds_toArray, List.set_cons_zero, List.set_cons_succ]
      refine wpAnyH_take (i := 3) (oi := { dst := some 23, op := _, type := _, pos := _, after := _, guard := _ }) (v := ?va3_4) rfl (by kernel_rfl) (by kernel_rfl) (by kernel_rfl) (fun _ _ _ h => h) (Or.inl ⟨by kernel_rfl, ?ha3_4⟩) hSa ?ra3_4
      case ha3_4 => first | (intro w hSw; obtain ⟨s0, s1⟩ := hSw; go_simp; done) | (intro w hSw; obtain ⟨s0, s1⟩ := hSw; go_simp; with_reducible rfl)
      try simp only [Act.put, List.setIfInBounds_toArray, List.set_cons_zero, List.set_cons_succ]
      refine wpAnyH_take (i := 4) (oi := { dst := some 24, op := _, type := _, pos := _, after := _, guard := _ }) (v := ?va4_5) rfl (by kernel_rfl) (by kernel_rfl) (by kernel_rfl) (fun _ _ _ h => h) (Or.inl ⟨by kernel_rfl, ?ha4_5⟩) hSa ?ra4_5
      case ha4_5 => first | (intro w hSw; obtain ⟨s0, s1⟩ := hSw; go_simp; done) | (intro w hSw; obtain ⟨s0, s1⟩ := hSw; go_simp; with_reducible rfl)
      try simp only [Act.put, List.setIfInBounds_toArray, List.set_cons_zero, List.set_cons_succ]
      refine wpAnyH_take (i := 5) (oi := { dst := some 25, op := _, type := _, pos := _, after := _, guard := _ }) (v := ?va5_6) rfl (by kernel_rfl) (by kernel_rfl) (by kernel_rfl) (fun _ _ _ h => h) (Or.inl ⟨by kernel_rfl, ?ha5_6⟩) hSa ?ra5_6
      case ha5_6 => first | (intro w hSw; obtain ⟨s0, s1⟩ := hSw; go_simp; done) | (intro w hSw; obtain ⟨s0, s1⟩ := hSw; go_simp; with_reducible rfl)
      try simp only [Act.put, List.setIfInBounds_toArray, List.set_cons_zero, List.set_cons_succ]
      refine wpAnyH_ready (rs := [6]) (by kernel_rfl) (by simp) ?_
      refine AllReadyH.cons rfl (fun K hK => ?_) AllReadyH.nil
      go_simp
      refine (unhide CE _ (unhide HTX)).mono ?_
      rintro e1 w5 ⟨rfl, hb5⟩
      have K5 := hide ((unhide K0).later hb5)
      have B5 := hide (bldF_below (unhide HBX) hb5)
      have Z5 := hide (Nat.le_trans (unhide hzb) hb5.size)
      have W5 := hide (tr2 (unhide HBW) hb5)
      have hSa' : KeepO wr.heap.size a1 a2 w5 := ⟨(unhide K5).cell 0, (unhide K5).cell 1⟩
      clear hb5 CE
      refine hK _ _ hSa' (fun _ => ?_)
      clear hK K hSa
      have hSa := hSa'
      clear hSa'
      refine wpAnyH_take (i := 7) (oi := { dst := some 27, op := _, type := _, pos := _, after := _, guard := _ }) (v := ?va7_7) rfl (by kernel_rfl) (by kernel_rfl) (by kernel_rfl) (fun _ _ _ h => h) (Or.inl ⟨by kernel_rfl, ?ha7_7⟩) hSa ?ra7_7
      case ha7_7 => first | (intro w hSw; obtain ⟨s0, s1⟩ := hSw; go_simp; done) | (intro w hSw; obtain ⟨s0, s1⟩ := hSw; go_simp; with_reducible rfl)
      try simp only [Act.put, List.setIfInBounds_toArray, List.set_cons_zero, List.set_cons_succ]
      refine wpAnyH_take (i := 8) (oi := { dst := some 28, op := _, type := _, pos := _, after := _, guard := _ }) (v := ?va8_8) rfl (by kernel_rfl) (by kernel_rfl) (by kernel_rfl) (fun _ _ _ h => h) (Or.inl ⟨by kernel_rfl, ?ha8_8⟩) hSa ?ra8_8
      case ha8_8 => first | (intro w hSw; obtain ⟨s0, s1⟩ := hSw; go_simp; done) | (intro w hSw; obtain ⟨s0, s1⟩ := hSw; go_simp; with_reducible rfl)
      try simp only [Act.put, List.setIfInBounds_toArray, List.set_cons_zero, List.set_cons_succ]
      refine wpAnyH_ready (rs := [9]) (by kernel_rfl) (by simp) ?_
      refine AllReadyH.cons rfl (fun K hK => ?_) AllReadyH.nil
      go_simp
      rw [unhide HAB]
      refine (writeStringK b b _ _ w5 (unhide B5) hl1 (unhide Z5)).mono ?_
      rintro e1 w6 ⟨rfl, B6, hb6, ho6⟩
      have K6 := hide (oth_cells ho6 (unhide K5) (unhide hgb))
      rw [bs_toList] at B6
      have HB6 := hide B6
      have Z6 := hide (Nat.le_trans (unhide Z5) hb6.size)
      have W6 := hide ((unhide W5).trans (hb6.mono (Nat.le_of_lt (unhide hwb))))
      have hSa' : KeepO wr.heap.size a1 a2 w6 := ⟨(unhide K6).cell 0, (unhide K6).cell 1⟩
      clear hb6 ho6 B6
      refine hK _ _ hSa' (fun _ => ?_)
      clear hK K hSa
      have hSa := hSa'
      clear hSa'
      refine wpAnyH_done (by kernel_rfl) ?_ _
      clear hSa
      go_wp2
      go_roundw
      case rel => exact ⟨k + 1, by omega, by go_num, by rw [unhide HATT, ← List.append_assoc]; exact unhide HB6, unhide W6, unhide Z6⟩
      case measure => simp [intOf]; omega
    · have hke : k = ats.length := by omega
      have hl1 : ([60] ++ n.data.toList ++ attL ats k).length + (⟨#[62]⟩ : ByteArray).size ≤ 140737488355328 := by
        rw [List.length_append, List.length_append, data_len]
        have : (⟨#[62]⟩ : ByteArray).size = 1 := rfl
        rw [this]; simp; omega
      have hpi : ¬ (k : Int) < (ats.length : Int) := by omega
      have C5 := hide (writeStringK b b _ ⟨#[62]⟩ wr hB hl1 hbz)
      have HBW2 := hide hbw
      have HFIN : Hid (bs ([60] ++ n.data.toList ++ attL ats k ++ (⟨#[62]⟩ : ByteArray).data.toList) = bs (openL n.data.toList ats)) := hide (by rw [hke]; unfold openL; simp)
      clear hB hbw hl1 hke
      go_wp2_with fail
      refine (unhide C5).mono ?_
      rintro e1 w5 ⟨rfl, B5, hb5, _⟩
      have C6 := hide (stringK b b _ w5 B5 (Nat.le_trans hbz hb5.size))
      have HB5 := hide ((unhide HBW2).trans (hb5.mono (Nat.le_of_lt (unhide hwb))))
      rw [unhide HFIN] at C6
      clear B5 hb5 C5
      go_wp2_with fail
      refine (unhide C6).mono ?_
      rintro e1 w6 ⟨rfl, hb6⟩
      have HB6 := hide ((unhide HB5).trans (hb6.mono (Nat.le_of_lt (unhide hwb))))
      clear hb6 C6
      go_wp2
      go_ret
      exact ⟨rfl, unhide HB6⟩
theorem jopen_any (k sp : Int) (n : ByteArray) (ats : List (ByteArray × ByteArray)) (tx : ByteArray) (q qk : Option Addr) (c kl ck : Nat) (w : World) (ht : Tabs w) (hs : Sl q ats w) (hf : Fits ats) (hn : n.size ≤ 10000) :
    Calls Tryd.prog 45 #[.agg #[.int .i64 k, .int .i64 sp, .string n, .slice q ats.length c, .string tx, .slice qk kl ck]] w fun e w' => e = .returned (.string (bs (opL k n.data.toList ats))) ∧ Below w.heap.size w w' := by
  unfold opL
  by_cases h : k = 1
  · subst h
    rw [if_pos rfl]
    exact jopen_yes sp n ats tx q qk c kl ck w ht hs hf hn
  · rw [if_neg h]
    exact jopen_no k sp n tx q qk ats.length c kl ck w h
end Go.Proofs.YtfbgpodcdgmpjaaDoor
