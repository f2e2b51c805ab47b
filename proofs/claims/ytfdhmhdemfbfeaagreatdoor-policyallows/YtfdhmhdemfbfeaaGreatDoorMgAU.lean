/-
  Several texts in one: what the functions of the program and of the document's answer do.
-/
import Derived.Test.YtfdhmhdemfbfeaaGreatDoorMgAT
import Derived.Deep.RegionHeld
import Derived.Test.YtfdhmhdemfbfeaaGreatDoorDLo
import Derived.Test.YtfdhmhdemfbfeaaGreatDoorMgAJ

/-
  'policy.Stays' (made by mk_wss.py).
-/
namespace Go.Proofs.YtfdhmhdemfbfeaaGreatDoor
open Go.RowKit
set_option linter.unusedVariables false
set_option linter.unusedSimpArgs false

def stP (p : PPol) (nm an av : ByteArray) : Bool := decide (chkP p = 0) && stB p (findR p.ot nm p.rs) an av
def KeepJ (j b : Nat) (a1 a2 : Option Addr) (n1 c1 n2 c2 : Nat) (ot st : Int) (an av : ByteArray) (W : World) : Prop :=
  W.cell? ⟨j, 0, none⟩ = some (.slice a1 n1 c1) ∧ W.cell? ⟨j, 1, none⟩ = some (.slice a2 n2 c2) ∧ W.cell? ⟨j, 2, none⟩ = some (.int .i64 ot) ∧ W.cell? ⟨j, 3, none⟩ = some (.int .i64 st) ∧ W.cell? ⟨b, 0, none⟩ = some (.string an) ∧ W.cell? ⟨b, 1, none⟩ = some (.string av)
theorem KeepJ.of {j b : Nat} {a1 a2 : Option Addr} {n1 c1 n2 c2 : Nat} {ot st : Int} {an av : ByteArray} {W : World} {t t' : TypeId} (h : Blk W j #[.slice a1 n1 c1, .slice a2 n2 c2, .int .i64 ot, .int .i64 st] t) (h' : Blk W b #[.string an, .string av] t') : KeepJ j b a1 a2 n1 c1 n2 c2 ot st an av W :=
  ⟨h.cell 0, h.cell 1, h.cell 2, h.cell 3, h'.cell 0, h'.cell 1⟩

set_option maxHeartbeats 2000000 in
set_option maxRecDepth 20000 in
theorem pstays_any (v : Value) (p : PPol) (nm an av : ByteArray) (w : World) (hv : PolV w v p) (ho : PolOk p) (hz : av.size ≤ 100000) :
    Calls Tryz.prog 16 #[v, .string nm, .agg #[.string an, .string av]] w fun e w' => e = .returned (.bool (stP p nm an av)) ∧ Below w.heap.size w w' := by
  have C1 := hide (fun W hW => check_any v p W (hv.below hW) ho)
  have C2 := hide (fun W hW => rule_any v p 0 nm W (hv.below (w := w) hW))
  have C3 := hide (fun vr r W hW hr => jstays_any v vr p r an av W (hv.below (w := w) hW) hr hz)
  obtain ⟨vrs, vs, rfl, h1, h2⟩ := hv
  obtain ⟨a2, c2, rfl⟩ := h2.slice
  obtain ⟨hrl, a1, c1, rfl, _⟩ := h1
  have hru : rulOf p 0 nm = findR p.ot nm p.rs := rfl
  rw [hru] at C2
  unfold stP
  unfold polC at *
  clear h2 hru
  generalize chkP p = ch at *
  have C4 := hide (fun vr W hW hr => unhide C3 vr (findR p.ot nm p.rs) W hW hr)
  generalize stB p (findR p.ot nm p.rs) an av = D at *
  generalize findR p.ot nm p.rs = rr at *
  clear C3
  obtain ⟨rs, sc, ot, st⟩ := p
  dsimp only at *
  generalize rs.length = n1 at *
  generalize sc.length = n2 at *
  have al : Below w.heap.size w ((w.alloc (Obj.cells #[.slice a1 n1 c1, .slice a2 n2 c2, .int .i64 ot, .int .i64 st] 25)).alloc (Obj.cells #[.string an, .string av] 48)) := ((Below.refl _ _).alloc (Nat.le_refl _) _).alloc (by simp) _
  have K : Hid (Blk ((w.alloc (Obj.cells #[.slice a1 n1 c1, .slice a2 n2 c2, .int .i64 ot, .int .i64 st] 25)).alloc (Obj.cells #[.string an, .string av] 48)) w.heap.size #[.slice a1 n1 c1, .slice a2 n2 c2, .int .i64 ot, .int .i64 st] 25) := hide ((Blk.new w _ _).alloc _)
  have KA : Hid (Blk ((w.alloc (Obj.cells #[.slice a1 n1 c1, .slice a2 n2 c2, .int .i64 ot, .int .i64 st] 25)).alloc (Obj.cells #[.string an, .string av] 48)) (w.heap.size + 1) #[.string an, .string av] 48) := hide (blk_next (by simp))
  have C1' := hide (unhide C1 _ al)
  by_cases h0 : ch = 0
  · subst h0
    go_enter Tryz.func16, Tryz.ntmps16
    go_wp2_with fail
    refine (unhide C1').mono ?_
    rintro e1 w1 ⟨rfl, hb1⟩
    have K1 := hide ((unhide K).later hb1)
    have KA1 := hide ((unhide KA).later hb1)
    have HB1 := hide (al.trans (hb1.mono (by simp; omega)))
    have z0 : w1.cell? ⟨w.heap.size, 0, none⟩ = some (.slice a1 n1 c1) := (unhide K1).cell 0
    have z1 : w1.cell? ⟨w.heap.size, 1, none⟩ = some (.slice a2 n2 c2) := (unhide K1).cell 1
    have z2 : w1.cell? ⟨w.heap.size, 2, none⟩ = some (.int .i64 ot) := (unhide K1).cell 2
    have z3 : w1.cell? ⟨w.heap.size, 3, none⟩ = some (.int .i64 st) := (unhide K1).cell 3
    have KJ := hide (Blk.new w1 #[.slice a1 n1 c1, .slice a2 n2 c2, .int .i64 ot, .int .i64 st] 58)
    have KA2 := hide ((unhide KA1).alloc (Obj.cells #[.slice a1 n1 c1, .slice a2 n2 c2, .int .i64 ot, .int .i64 st] 58))
    have HB2 := hide ((unhide HB1).alloc (unhide HB1).size (Obj.cells #[.slice a1 n1 c1, .slice a2 n2 c2, .int .i64 ot, .int .i64 st] 58))
    have hD : Below (w1.alloc (Obj.cells #[.slice a1 n1 c1, .slice a2 n2 c2, .int .i64 ot, .int .i64 st] 58)).heap.size (w1.alloc (Obj.cells #[.slice a1 n1 c1, .slice a2 n2 c2, .int .i64 ot, .int .i64 st] 58)) (w1.alloc (Obj.cells #[.slice a1 n1 c1, .slice a2 n2 c2, .int .i64 ot, .int .i64 st] 58)).drew := below_draws _ 1
    have KJ3 := hide ((unhide KJ).later hD)
    have KA3 := hide ((unhide KA2).later hD)
    have HB3 := hide (tr2 (unhide HB2) hD)
    clear hb1 al C1 C1' hD KJ KA2 HB2
    go_wp2_with fail
    clear z0 z1 z2 z3
    have hSa := KeepJ.of (unhide KJ3) (unhide KA3)
    refine wp_region_held (S := KeepJ w1.heap.size (w.heap.size + 1) a1 a2 n1 c1 n2 c2 ot st an av) (by kernel_rfl) ?_
    change wpAnyH _ _ _ _ _ _ _ _ (World.drew _)
    refine wpAnyH_take (i := 0) (oi := { dst := some 13, op := _, type := _, pos := _, after := _, guard := _ }) (v := ?va0_1) rfl (by kernel_rfl) (by kernel_rfl) (by kernel_rfl) (fun _ _ _ h => h) (Or.inl ⟨by kernel_rfl, ?ha0_1⟩) hSa ?ra0_1
    case ha0_1 => first | (intro w hSw; obtain ⟨s0, s1, s2, s3, s4, s5⟩ := hSw; go_simp; done) | (intro w hSw; obtain ⟨s0, s1, s2, s3, s4, s5⟩ := hSw; go_simp; with_reducible rfl)
    try simp only [Act.put, List.setIfInBounds_toArray, List.set_cons_zero, List.set_cons_succ]
    refine wpAnyH_take (i := 1) (oi := { dst := some 14, op := _, type := _, pos := _, after := _, guard := _ }) (v := ?va1_2) rfl (by kernel_rfl) (by kernel_rfl) (by kernel_rfl) (fun _ _ _ h => h) (Or.inl ⟨by kernel_rfl, ?ha1_2⟩) hSa ?ra1_2
    case ha1_2 => first | (intro w hSw; obtain ⟨s0, s1, s2, s3, s4, s5⟩ := hSw; go_simp; done) | (intro w hSw; obtain ⟨s0, s1, s2, s3, s4, s5⟩ := hSw; go_simp; with_reducible rfl)
    try simp only [Act.put, List.setIfInBounds_toArray, List.set_cons_zero, List.set_cons_succ]
    refine wpAnyH_take (i := 2) (oi := { dst := some 15, op := _, type := _, pos := _, after := _, guard := _ }) (v := ?va2_3) rfl (by kernel_rfl) (by kernel_rfl) (by kernel_rfl) (fun _ _ _ h => h) (Or.inl ⟨by kernel_rfl, ?ha2_3⟩) hSa ?ra2_3
    case ha2_3 => first | (intro w hSw; obtain ⟨s0, s1, s2, s3, s4, s5⟩ := hSw; go_simp; done) | (intro w hSw; obtain ⟨s0, s1, s2, s3, s4, s5⟩ := hSw; go_simp; with_reducible rfl)
    try simp only [Act.put, List.setIfInBounds_toArray, List.set_cons_zero, List.set_cons_succ]
    refine wpAnyH_take (i := 4) (oi := { dst := some 17, op := _, type := _, pos := _, after := _, guard := _ }) (v := ?va4_4) rfl (by kernel_rfl) (by kernel_rfl) (by kernel_rfl) (fun _ _ _ h => h) (Or.inl ⟨by kernel_rfl, ?ha4_4⟩) hSa ?ra4_4
    case ha4_4 => first | (intro w hSw; obtain ⟨s0, s1, s2, s3, s4, s5⟩ := hSw; go_simp; done) | (intro w hSw; obtain ⟨s0, s1, s2, s3, s4, s5⟩ := hSw; go_simp; with_reducible rfl)
    try simp only [Act.put, List.setIfInBounds_toArray, List.set_cons_zero, List.set_cons_succ]
    refine wpAnyH_ready (rs := [3]) (by kernel_rfl) (by simp) ?_
    refine AllReadyH.cons rfl (fun K hK => ?_) AllReadyH.nil
    go_simp
    refine (unhide C2 _ (unhide HB3)).mono ?_
    rintro e w4 ⟨⟨v', rfl, hrv⟩, hb⟩
    have HRV := hide hrv
    obtain ⟨va, vl, rfl, _, _⟩ := hrv
    have KJ4 := hide ((unhide KJ3).later hb)
    have KA4 := hide ((unhide KA3).later hb)
    have HB4 := hide (tr2 (unhide HB3) hb)
    have hSa' := KeepJ.of (unhide KJ4) (unhide KA4)
    clear hb
    refine hK _ _ hSa' (fun _ => ?_)
    clear hK K hSa
    have hSa := hSa'
    clear hSa'
    refine wpAnyH_ready (rs := [5]) (by kernel_rfl) (by simp) ?_
    refine AllReadyH.cons rfl (fun K hK => ?_) AllReadyH.nil
    go_simp
    refine (unhide C4 _ _ (unhide HB4) (unhide HRV)).mono ?_
    rintro e w5 ⟨rfl, hb⟩
    have KJ5 := hide ((unhide KJ4).later hb)
    have KA5 := hide ((unhide KA4).later hb)
    have HB5 := hide (tr2 (unhide HB4) hb)
    have hSa' := KeepJ.of (unhide KJ5) (unhide KA5)
    clear hb
    refine hK _ _ hSa' (fun _ => ?_)
    clear hK K hSa
    have hSa := hSa'
    clear hSa'
    refine wpAnyH_take (i := 6) (oi := { dst := some 6, op := _, type := _, pos := _, after := _, guard := _ }) (v := ?va6_5) rfl (by kernel_rfl) (by kernel_rfl) (by kernel_rfl) (fun _ _ _ h => h) (Or.inl ⟨by kernel_rfl, ?ha6_5⟩) hSa ?ra6_5
    case ha6_5 => first | (intro w hSw; obtain ⟨s0, s1, s2, s3, s4, s5⟩ := hSw; go_simp; done) | (intro w hSw; obtain ⟨s0, s1, s2, s3, s4, s5⟩ := hSw; go_simp; with_reducible rfl)
    try simp only [Act.put, List.setIfInBounds_toArray, List.set_cons_zero, List.set_cons_succ]
    refine wpAnyH_done (by kernel_rfl) ?_ _
    clear hSa
    go_wp2
    go_ret
    exact ⟨by simp, unhide HB5⟩
  · obtain ⟨i0, i1⟩ := chk_ne h0
    rw [decide_eq_false h0]
    clear h0
    go_enter Tryz.func16, Tryz.ntmps16
    go_wp2_with fail
    refine (unhide C1').mono ?_
    rintro e1 w1 ⟨rfl, hb1⟩
    have HB1 := hide (al.trans (hb1.mono (by simp; omega)))
    go_wp2
    go_ret
    exact ⟨rfl, unhide HB1⟩
end Go.Proofs.YtfdhmhdemfbfeaaGreatDoor

/-
  What 'chars.Words' and the reference's do: of every text, its words, in new memory.
-/
namespace Go.Proofs.YtfdhmhdemfbfeaaGreatDoor
open Go.RowKit
set_option linter.unusedVariables false

def cur (l : List UInt8) (f k : Nat) : List UInt8 := (l.drop f).take (k - f)
theorem cur_nil (l : List UInt8) (k : Nat) : cur l k k = [] := by simp [cur]
theorem cur_ne {l : List UInt8} {f k : Nat} (h : f < k) (hk : k ≤ l.length) : cur l f k ≠ [] := by
  intro e
  have := congrArg List.length e
  rw [cur, List.length_take, List.length_drop] at this
  simp at this; omega
theorem cur_next {l : List UInt8} {f k : Nat} (h : f ≤ k) (hk : k < l.length) : ∃ c, cur l f (k + 1) = cur l f k ++ [c] ∧ l.drop k = c :: l.drop (k + 1) ∧ c.toNat = dgt l k := by
  obtain ⟨c, hc, hn⟩ := drop_at l k hk
  refine ⟨c, ?_, hc, hn⟩
  have h1 := take_at (l.drop f) (k - f) (by simp; omega)
  rw [cur, show k + 1 - f = k - f + 1 from by omega, h1, cur, dgt_drop, show f + (k - f) = k from by omega, ← hn, byt_self]
theorem words_no {l : List UInt8} {f k : Nat} (h : f ≤ k) (hk : k < l.length) (hs : spN (dgt l k) = false) : wordsG (cur l f k) (l.drop k) = wordsG (cur l f (k + 1)) (l.drop (k + 1)) := by
  obtain ⟨c, h1, h2, h3⟩ := cur_next h hk
  rw [h1, h2, wordsG_no (by rw [sp, h3]; exact hs)]
theorem words_end {l : List UInt8} {f k : Nat} (h : f < k) (hk : k ≤ l.length) (hs : k = l.length ∨ spN (dgt l k) = true) : wordsG (cur l f k) (l.drop k) = cur l f k :: wordsG (cur l (k + 1) (k + 1)) (l.drop (k + 1)) := by
  rw [cur_nil]
  by_cases e : k = l.length
  · rw [List.drop_eq_nil_of_le (by omega), List.drop_eq_nil_of_le (by omega), wordsG_nil1 (cur_ne h hk), wordsG_nil0]
  · obtain ⟨c, hc, hn⟩ := drop_at l k (by omega)
    rw [hc, wordsG_sp1 (by rw [sp, hn]; rcases hs with hs | hs; exact absurd hs e; exact hs) (cur_ne h hk)]
theorem words_skip {l : List UInt8} {k : Nat} (hk : k ≤ l.length) (hs : k = l.length ∨ spN (dgt l k) = true) : wordsG (cur l k k) (l.drop k) = wordsG (cur l (k + 1) (k + 1)) (l.drop (k + 1)) := by
  rw [cur_nil, cur_nil]
  by_cases e : k = l.length
  · rw [List.drop_eq_nil_of_le (by omega), List.drop_eq_nil_of_le (by omega)]
  · obtain ⟨c, hc, hn⟩ := drop_at l k (by omega)
    rw [hc, wordsG_sp0 (by rw [sp, hn]; rcases hs with hs | hs; exact absurd hs e; exact hs)]
theorem cur_extract (s : ByteArray) (f k : Nat) (h : f ≤ k) : s.extract f k = bs (cur s.data.toList f k) := by
  rw [cur, ← extract_take, show f + (k - f) = k from by omega]

/-- The texts of a list of lists of bytes. -/
def txt (ls : List (List UInt8)) : List ByteArray := ls.map bs
theorem txt_cons (a : List UInt8) (ls : List (List UInt8)) : txt (a :: ls) = bs a :: txt ls := rfl
theorem txt_nil : txt [] = [] := rfl

def WordsPost (w : World) (l : List UInt8) (e : Ending) (w' : World) : Prop :=
  ∃ v, e = .returned v ∧ w'.ownsRow w.heap.size 9 1 v (txt (wordsL l)).length ((txt (wordsL l)).map Value.string) ∧ Below w.heap.size w w'

set_option maxHeartbeats 2000000 in
theorem words_any (s : ByteArray) (w : World) (hs : s.size ≤ 100000) :
    Calls Tryz.prog 26 #[.string s] w fun e w' => WordsPost w s.data.toList e w' := by
  have C := hide space_any
  obtain ⟨i0, hi, hz0, hz1, hz2⟩ := info_parts Tryz.infoStr
  go_enter Tryz.func26, Tryz.ntmps26
  go_wp2
  go_loopw [3, 4, 9] (fun v vf i wr => ∃ (k f : Nat) (ws : List ByteArray), k ≤ s.size + 1 ∧ f ≤ k ∧ (k = s.size + 1 → f = k) ∧ vf = .int .i64 f ∧ i = .int .i64 k ∧ ws.length ≤ k ∧
      txt (wordsL s.data.toList) = ws ++ txt (wordsG (cur s.data.toList f k) (s.data.toList.drop k)) ∧ wr.ownsRow w.heap.size 9 1 v ws.length (ws.map Value.string) ∧ Below w.heap.size w wr) (fun _ _ i _ => s.size + 1 - (intOf i).toNat)
  case atStart => exact ⟨0, 0, [], Nat.zero_le _, Nat.le_refl _, fun h => by omega, rfl, rfl, Nat.le_refl _, rfl, World.ownsRow_nil _ _ _ _, Below.refl _ _⟩
  case round =>
    obtain ⟨k, f, ws, hk, hf, hfe, rfl, rfl, hwl, hr, hown, hbw⟩ := hrel
    have HFE := hide hfe
    clear hfe
    have HR := hide hr
    have HL := hide hwl
    clear hr hwl
    by_cases hp : k < s.size
    · have hpi : (k : Int) < (s.size : Int) := by omega
      have hpi2 : (k : Int) < (s.size : Int) + 1 := by omega
      have hkl : k < s.data.toList.length := by rw [data_len]; exact hp
      have e := dgt_at s k hp
      have n1 := words_no hf hkl
      have n2 := fun h h2 => words_end (l := s.data.toList) (f := f) (k := k) h (by omega) (.inr h2)
      have n3 := fun h2 => words_skip (l := s.data.toList) (k := k) (by omega) (.inr h2)
      have CB := hide (unhide C (dgt s.data.toList k))
      generalize dgt s.data.toList k = b at *
      cases hb : spN b with
      | false =>
        have N := hide (n1 hb)
        rw [hb] at CB
        clear n1 n2 n3 hb
        go_wp2_with fail
        refine (unhide CB _).mono ?_
        rintro e1 w1 ⟨rfl, rfl⟩
        go_wp2
        go_roundw
        case rel => exact ⟨k + 1, f, ws, by omega, by omega, fun h => by omega, rfl, by go_num, by have := unhide HL; omega, by rw [unhide HR, unhide N], hown, hbw⟩
        case measure => simp [intOf]; omega
      | true =>
        rw [hb] at CB
        by_cases hfk : f < k
        · have hfi : (f : Int) < (k : Int) := by omega
          have N := hide (n2 hfk hb)
          have X := hide (cur_extract s f k hf)
          obtain ⟨x, hx⟩ : ∃ x, x = s.extract f k := ⟨_, rfl⟩
          have HX := hide hx
          clear n1 n2 n3 hb
          go_wp2_with fail
          refine (unhide CB _).mono ?_
          rintro e1 w1 ⟨rfl, rfl⟩
          go_wp2_with (at_builtin; refine wpList_append_own _ rfl _ _ 23 rfl w.heap.size 9 i0 (.string ⟨#[]⟩) 1 16 Tryz.underlying23 hi hz0 hz1 hz2 rfl (by decide) _ _ _ rfl (hown.alloc _) ⟨w1.heap.size, 0, none⟩ 1 1 [.string (s.extract f k)] rfl rfl ?c1 ?c2 ?c3 ?c4 ?c5 ?_)
          case c1 => exact cell_one_new _ _ _
          case c2 => first | rfl | (intro u hu; simp at hu; subst hu; rfl)
          case c3 => have := unhide HL; first | (unfold maxLen; omega) | (simp; unfold maxLen; omega) | (simp [maxLen]; omega)
          case c4 => have := unhide HL; first | omega | (simp; omega)
          case c5 => have := hbw.size; simp; omega
          intro v' w2 hown' hgrow _
          have hbig : Below w.heap.size w w2 := (hbw.alloc (by have := hbw.size; omega) _).grown hgrow (by have := hbw.size; simp; omega) (fun j hj => (hown.lt j hj).1)
          clear hgrow
          go_wp2
          go_roundw
          case rel => exact ⟨k + 1, k + 1, ws ++ [s.extract f k], by omega, by omega, fun _ => rfl, by go_num, by go_num, by have := unhide HL; simp; omega, by rw [unhide HR, unhide N, txt_cons, unhide X, List.append_assoc]; rfl, by simpa using hown', hbig⟩
          case measure => simp [intOf]; omega
        · obtain rfl : f = k := by omega
          have N := hide (n3 hb)
          have hfi : ¬ (f : Int) < (f : Int) := by omega
          clear n1 n2 n3 hb hfk
          go_wp2_with fail
          refine (unhide CB _).mono ?_
          rintro e1 w1 ⟨rfl, rfl⟩
          go_wp2
          go_roundw
          case rel => exact ⟨f + 1, f + 1, ws, by omega, by omega, fun _ => rfl, by go_num, by go_num, by have := unhide HL; omega, by rw [unhide HR, unhide N], hown, hbw⟩
          case measure => simp [intOf]; omega
    · by_cases hke : k = s.size
      · have hpi : ¬ (k : Int) < (s.size : Int) := by omega
        have hpi2 : (k : Int) < (s.size : Int) + 1 := by omega
        have hd : decide ((k : Int) < (s.size : Int)) = false := by simp; omega
        have hkl : k = s.data.toList.length := by rw [data_len]; exact hke
        by_cases hfk : f < k
        · have hfi : (f : Int) < (k : Int) := by omega
          have N := hide (words_end hfk (by omega) (.inl hkl))
          have X := hide (cur_extract s f k hf)
          have hkp : k ≤ s.size := by omega
          clear hkl hke
          go_wp2_with (at_builtin; refine wpList_append_own _ rfl _ _ 23 rfl w.heap.size 9 i0 (.string ⟨#[]⟩) 1 16 Tryz.underlying23 hi hz0 hz1 hz2 rfl (by decide) _ _ _ rfl (hown.alloc _) ⟨wr.heap.size, 0, none⟩ 1 1 [.string (s.extract f k)] rfl rfl ?c1 ?c2 ?c3 ?c4 ?c5 ?_)
          case c2 => first | rfl | (intro u hu; simp at hu; subst hu; rfl)
          case c3 => have := unhide HL; first | (unfold maxLen; omega) | (simp; unfold maxLen; omega) | (simp [maxLen]; omega)
          case c4 => have := unhide HL; first | omega | (simp; omega)
          case c5 => have := hbw.size; simp; omega
          intro v' w2 hown' hgrow _
          have hbig : Below w.heap.size w w2 := (hbw.alloc (by have := hbw.size; omega) _).grown hgrow (by have := hbw.size; simp; omega) (fun j hj => (hown.lt j hj).1)
          clear hgrow
          go_wp2
          go_roundw
          case rel => exact ⟨k + 1, k + 1, ws ++ [s.extract f k], by omega, by omega, fun _ => rfl, by go_num, by go_num, by have := unhide HL; simp; omega, by rw [unhide HR, unhide N, txt_cons, unhide X, List.append_assoc]; rfl, by simpa using hown', hbig⟩
          case measure => simp [intOf]; omega
        · obtain rfl : f = k := by omega
          have N := hide (words_skip (l := s.data.toList) (k := f) (by omega) (.inl hkl))
          have hfi : ¬ (f : Int) < (f : Int) := by omega
          have hkp : f ≤ s.size := by omega
          clear hkl hfk hke
          go_wp2
          go_roundw
          case rel => exact ⟨f + 1, f + 1, ws, by omega, by omega, fun _ => rfl, by go_num, by go_num, by have := unhide HL; omega, by rw [unhide HR, unhide N], hown, hbw⟩
          case measure => simp [intOf]; omega
      · have hk1 : k = s.size + 1 := by omega
        have hpi2 : ¬ (k : Int) < (s.size : Int) + 1 := by omega
        have hw : txt (wordsL s.data.toList) = ws := by
          rw [unhide HR, unhide HFE hk1, cur_nil, List.drop_eq_nil_of_le (by rw [data_len]; omega), wordsG_nil0, txt_nil, List.append_nil]
        have W := hide hw
        clear hw
        go_wp2
        go_ret
        exact ⟨_, rfl, by rw [unhide W]; exact hown, hbw⟩
end Go.Proofs.YtfdhmhdemfbfeaaGreatDoor
