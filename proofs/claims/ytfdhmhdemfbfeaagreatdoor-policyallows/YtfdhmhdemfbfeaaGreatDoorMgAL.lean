/-
  Several texts in one: what the functions of the program and of the document's answer do.
-/
import Derived.Test.YtfdhmhdemfbfeaaGreatDoorUPl
import Derived.Test.YtfdhmhdemfbfeaaGreatDoorMgAK
import Derived.Laws.EntriesVeiled

/-
  The two tables of package utf, and what 'utf.isCharacter' and 'utf.size' do.
-/
namespace Go.Proofs.YtfdhmhdemfbfeaaGreatDoor
open Go.RowKit
set_option linter.unusedVariables false

/-- The two tables, as their text says them. -/
def Tabs (w : World) : Prop :=
  w.cell? ⟨0, 1, none⟩ = some (.int .i64 0) ∧ w.cell? ⟨0, 2, none⟩ = some (.int .i64 192) ∧ w.cell? ⟨0, 3, none⟩ = some (.int .i64 224) ∧ w.cell? ⟨0, 4, none⟩ = some (.int .i64 240) ∧
  w.cell? ⟨1, 1, none⟩ = some (.int .i64 128) ∧ w.cell? ⟨1, 2, none⟩ = some (.int .i64 2048) ∧ w.cell? ⟨1, 3, none⟩ = some (.int .i64 65536) ∧ w.cell? ⟨1, 4, none⟩ = some (.int .i64 1114112)
theorem Tabs.below {w w' : World} (h : Tabs w) (hb : Below w.heap.size w w') : Tabs w' := by
  obtain ⟨h1, h2, h3, h4, h5, h6, h7, h8⟩ := h
  exact ⟨cell_later hb h1, cell_later hb h2, cell_later hb h3, cell_later hb h4, cell_later hb h5, cell_later hb h6, cell_later hb h7, cell_later hb h8⟩
theorem Tabs.lt {w : World} (h : Tabs w) : 0 < w.heap.size ∧ 1 < w.heap.size := by
  obtain ⟨h1, _, _, _, h5, _⟩ := h
  exact ⟨World.block_lt_of_cell? w ⟨0, 1, none⟩ h1, World.block_lt_of_cell? w ⟨1, 1, none⟩ h5⟩

theorem isChar_any (c : Int) (w : World) :
    Calls Tryz.prog 74 #[.int .i64 c] w fun e w' => e = .returned (.bool (isC c)) ∧ w' = w := by
  by_cases h1 : 0 ≤ c
  · by_cases h2 : c ≤ 1114111
    · by_cases h3 : c < 55296
      · rw [isC_mk (by omega)]
        go_enter Tryz.func74, Tryz.ntmps74
        go_wp2
        go_ret
        exact ⟨rfl, rfl⟩
      · have h3' : 55296 ≤ c := by omega
        by_cases h4 : 57343 < c
        · rw [isC_mk (by omega)]
          clear h3
          go_enter Tryz.func74, Tryz.ntmps74
          go_wp2
          go_ret
          exact ⟨rfl, rfl⟩
        · rw [isC_no (by omega)]
          have h4' : c ≤ 57343 := by omega
          have hd : decide (57343 < c) = false := by simp; omega
          have hd3 : decide (c < 55296) = false := by simp; omega
          clear h3 h4
          go_enter Tryz.func74, Tryz.ntmps74
          go_wp2
          go_ret
          exact ⟨rfl, rfl⟩
    · rw [isC_no (by omega)]
      have h2' : 1114111 < c := by omega
      have hd : decide (c ≤ 1114111) = false := by simp; omega
      clear h2
      go_enter Tryz.func74, Tryz.ntmps74
      go_wp2
      go_ret
      exact ⟨rfl, rfl⟩
  · rw [isC_no (by omega)]
    have h1' : c < 0 := by omega
    have hd : decide (0 ≤ c) = false := by simp; omega
    clear h1
    go_enter Tryz.func74, Tryz.ntmps74
    go_wp2
    go_ret
    exact ⟨rfl, rfl⟩

theorem size_any (c : Int) (w : World) (h0 : 0 ≤ c) (h1 : c ≤ 1114111) (ht : Tabs w) :
    Calls Tryz.prog 75 #[.int .i64 c] w fun e w' => e = .returned (.int .i64 (sz c : Int)) ∧ w' = w := by
  obtain ⟨_, _, _, _, t1, t2, t3, t4⟩ := ht
  rcases sz_cases c with ⟨h, e⟩ | ⟨hl, h, e⟩ | ⟨hl, h, e⟩ | ⟨hl, e⟩
  · rw [e]
    clear e
    go_enter Tryz.func75, Tryz.ntmps75
    go_wp2
    refine wp_loop_rounds 1 ?_
    rw [rounds_succ]; go_wp2
    go_ret
    exact ⟨rfl, rfl⟩
  · rw [e]
    clear e
    go_enter Tryz.func75, Tryz.ntmps75
    go_wp2
    refine wp_loop_rounds 2 ?_
    rw [rounds_succ]; go_wp2
    rw [rounds_succ]; go_wp2
    go_ret
    exact ⟨rfl, rfl⟩
  · rw [e]
    clear e
    go_enter Tryz.func75, Tryz.ntmps75
    go_wp2
    refine wp_loop_rounds 3 ?_
    rw [rounds_succ]; go_wp2
    rw [rounds_succ]; go_wp2
    rw [rounds_succ]; go_wp2
    go_ret
    exact ⟨rfl, rfl⟩
  · rw [e]
    clear e
    go_enter Tryz.func75, Tryz.ntmps75
    go_wp2
    refine wp_loop_rounds 4 ?_
    rw [rounds_succ]; go_wp2
    rw [rounds_succ]; go_wp2
    rw [rounds_succ]; go_wp2
    rw [rounds_succ]; go_wp2
    go_ret
    exact ⟨rfl, rfl⟩
end Go.Proofs.YtfdhmhdemfbfeaaGreatDoor

/-
  What 'utf.First' does: of every text its first character and how many bytes it has, as the plain function says it.
-/
namespace Go.Proofs.YtfdhmhdemfbfeaaGreatDoor
open Go.RowKit
set_option linter.unusedVariables false

def tld (b : Nat) : Nat := if 240 ≤ b then 4 else if 224 ≤ b then 3 else if 192 ≤ b then 2 else 1

def CharIs (c : Int) (t : Bool) : Prop := ∀ w, Calls Tryz.prog 74 #[.int .i64 c] w fun e w' => e = .returned (.bool t) ∧ w' = w
def SizeIs (c : Int) (k : Nat) : Prop := ∀ w, Tabs w → Calls Tryz.prog 75 #[.int .i64 c] w fun e w' => e = .returned (.int .i64 k) ∧ w' = w

/-- The answer where no character begins. -/
def bad : Value := .tuple #[.int .i64 65533, .int .i64 1]

def firstV (l : List UInt8) : Value := .tuple #[.int .i64 (step l).1, .int .i64 ((step l).2.1 : Int)]
theorem firstV_none {l : List UInt8} (h : dec l = none) : firstV l = bad := by simp only [firstV, step, h]; rfl
theorem firstV_some {l : List UInt8} {c : Int} {n : Nat} (h : dec l = some (c, n)) : firstV l = .tuple #[.int .i64 c, .int .i64 (n : Int)] := by simp only [firstV, step, h]

theorem charIs (c : Int) (t : Bool) (h : isC c = t) : CharIs c t := by
  intro w; have := isChar_any c w; rw [h] at this; exact this
theorem sizeIs (c : Int) (k : Nat) (h : isC c = true) (hk : sz c = k) : SizeIs c k := by
  intro w ht
  have hr := isC_true h
  have := size_any c w (by omega) (by omega) ht
  rw [hk] at this; exact this
end Go.Proofs.YtfdhmhdemfbfeaaGreatDoor

/-
  What 'utf.isWrong' and 'utf.Right' do.
-/
namespace Go.Proofs.YtfdhmhdemfbfeaaGreatDoor
open Go.RowKit
set_option linter.unusedVariables false

end Go.Proofs.YtfdhmhdemfbfeaaGreatDoor

/-
  What 'pen.Name' and 'pen.Good' do, and the reference's.
-/
namespace Go.Proofs.YtfdhmhdemfbfeaaGreatDoor
open Go.RowKit
set_option linter.unusedVariables false

theorem nameB_short {l : List UInt8} (h : ¬ (0 < l.length ∧ l.length ≤ 24)) : nameB l = false := by
  unfold nameB; rw [decide_eq_false h]; rfl
theorem nameB_ok {l : List UInt8} (h : 0 < l.length ∧ l.length ≤ 24) : nameB l = (smN (dgt l 0) && allN okN l) := by
  unfold nameB; rw [decide_eq_true h]; rfl

set_option maxHeartbeats 2000000 in
theorem pname_any (s : ByteArray) (w : World) (hs : s.size ≤ 9223372036854775807) :
    Calls Tryz.prog 66 #[.string s] w fun e w' => e = .returned (.bool (nameB s.data.toList)) ∧ Below w.heap.size w w' := by
  by_cases h0 : s.size = 0
  · have he := is_empty s h0
    rw [nameB_short (by rw [data_len]; omega)]
    go_enter Tryz.func66, Tryz.ntmps66
    go_wp2
    go_ret
    exact ⟨rfl, Below.refl _ _⟩
  have he := not_empty s (by omega)
  by_cases h1 : 24 < s.size
  · have hi : (24 : Int) < (s.size : Int) := by omega
    rw [nameB_short (by rw [data_len]; omega)]
    go_enter Tryz.func66, Tryz.ntmps66
    go_wp2
    go_ret
    exact ⟨rfl, Below.refl _ _⟩
  have hi : ¬ (24 : Int) < (s.size : Int) := by omega
  have hp0 : 0 < s.size := by omega
  have hp0i : (0 : Int) < (s.size : Int) := by omega
  rw [nameB_ok (by rw [data_len]; omega)]
  have e0 := dgt_at s 0 hp0
  have CS := hide (small_any (dgt s.data.toList 0))
  have hcap : Cap w.heap.size (w.alloc (.cells #[.func (.func 80) #[] #[]] 93)) := World.cell?_alloc_at _ _ _ _ rfl
  have CE := hide (fun w' h => every_name s w.heap.size w' h hs)
  generalize dgt s.data.toList 0 = b at *
  generalize allN okN s.data.toList = ev at *
  have hmf : ∀ (fn : Fn) (first cap : Array Value) (w : World), (Instr.makeFunc fn first cap).run Tryz.prog w = .ok (.func fn first cap) w := fun _ _ _ _ => rfl
  have HC := hide hcap
  clear hcap h0 h1
  cases hb : smN b with
  | true =>
    rw [hb] at CS
    clear hb
    go_enter Tryz.func66, Tryz.ntmps66
    go_wp2
    go_quiet ((first | (go_at_call 80; exact Calls.quiet_of_same (unhide CS _)) | (go_at_call 81; exact Calls.quiet_of_same (unhide CE _ (unhide HC)))))
    go_wp2
    go_ret
    exact ⟨rfl, _root_.Go.below_drewN ((Below.refl _ _).alloc (Nat.le_refl _) _) _⟩
  | false =>
    rw [hb] at CS
    clear hb
    go_enter Tryz.func66, Tryz.ntmps66
    go_wp2
    go_quiet ((go_at_call 80; exact Calls.quiet_of_same (unhide CS _)))
    go_wp2
    go_ret
    exact ⟨rfl, _root_.Go.below_drewN ((Below.refl _ _).alloc (Nat.le_refl _) _) _⟩

/-! ### the reference's -/
set_option maxHeartbeats 2000000 in
theorem rname6_any (s : ByteArray) (w : World) (hs : s.size ≤ 9223372036854775807) :
    Calls Tryz.prog 36 #[.string s] w fun e w' => e = .returned (.bool (nameB s.data.toList)) ∧ w' = w := by
  go_enter Tryz.func36, Tryz.ntmps36
  go_wp2
  go_loopw [3] (fun i wr => ∃ k : Nat, k ≤ s.size ∧ i = .int .i64 k ∧ allN okN s.data.toList = allN okN (s.data.toList.drop k) ∧ (0 < k → smN (dgt s.data.toList 0) = true) ∧ wr = w) (fun i _ => s.size - (intOf i).toNat)
  case atStart => exact ⟨0, Nat.zero_le _, rfl, rfl, fun h => by omega, rfl⟩
  case round =>
    obtain ⟨k, hk, rfl, hr, h0, rfl⟩ := hrel
    have HR := hide hr
    have H0 := hide h0
    clear hr h0
    by_cases hp : k < s.size
    · have hpi : (k : Int) < (s.size : Int) := by omega
      have e := dgt_at s k hp
      have hst := allN_step okN (l := s.data.toList) (k := k) (by rw [data_len]; exact hp)
      rw [ok_more] at hst
      have hz : k = 0 → smN (dgt s.data.toList 0) = smN (dgt s.data.toList k) := fun h => by rw [h]
      have hno1 : k = 0 → smN (dgt s.data.toList k) = false → nameB s.data.toList = false := fun h1 h2 => by
        unfold nameB; rw [hz h1, h2]; simp
      have hno2 : (smN (dgt s.data.toList k) || moreN (dgt s.data.toList k)) = false → nameB s.data.toList = false := fun h => by
        unfold nameB; rw [unhide HR, hst, h]; simp
      have HST := hide hst
      have HZ := hide hz
      have N1 := hide hno1
      have N2 := hide hno2
      clear hst hz hno1 hno2
      have hbl := dgt_lt s.data.toList k
      generalize dgt s.data.toList k = b at *
      by_cases g1 : 97 ≤ b ∧ b ≤ 122
      · have i1 : (97 : Int) ≤ (b : Int) := by omega
        have i2 : (b : Int) ≤ 122 := by omega
        have i3 : (48 : Int) ≤ (b : Int) := by omega
        have i4 : decide ((b : Int) ≤ 58) = false := decide_eq_false (by omega)
        have i5 : ((b : Int) == 45) = false := bneI (by omega)
        rw [smN_yes g1] at HST HZ
        clear g1 N1 N2
        go_wp2
        go_roundw
        case rel => exact ⟨k + 1, by omega, by go_num, by rw [unhide HR, unhide HST]; rfl, fun _ => by
          by_cases hk0 : k = 0
          · exact unhide HZ hk0
          · exact unhide H0 (by omega), by first | exact rfl | trivial⟩
        case measure => simp [intOf]; omega
      · rw [smN_no g1] at HST HZ N1 N2
        by_cases gk : k = 0
        · subst gk
          have HN := hide (unhide N1 rfl rfl)
          by_cases g2 : 97 ≤ b
          · have i1 : (97 : Int) ≤ (b : Int) := by omega
            have i2 : decide ((b : Int) ≤ 122) = false := decide_eq_false (by omega)
            have i3 : (48 : Int) ≤ (b : Int) := by omega
            have i4 : decide ((b : Int) ≤ 58) = false := decide_eq_false (by omega)
            have i5 : ((b : Int) == 45) = false := bneI (by omega)
            clear g1 N1 N2
            go_wp2
            go_ret
            exact ⟨by rw [unhide HN]; rfl, rfl⟩
          · have i1 : decide ((97 : Int) ≤ (b : Int)) = false := decide_eq_false (by omega)
            clear g1 g2 N1 N2
            by_cases g3 : 48 ≤ b
            · have i3 : (48 : Int) ≤ (b : Int) := by omega
              by_cases g4 : b ≤ 58
              · have i4 : (b : Int) ≤ 58 := by omega
                go_wp2
                go_ret
                exact ⟨by rw [unhide HN]; rfl, rfl⟩
              · have i4 : decide ((b : Int) ≤ 58) = false := decide_eq_false (by omega)
                have i5 : ((b : Int) == 45) = false := bneI (by omega)
                clear g4
                go_wp2
                go_ret
                exact ⟨by rw [unhide HN]; rfl, rfl⟩
            · have i3 : decide ((48 : Int) ≤ (b : Int)) = false := decide_eq_false (by omega)
              clear g3
              by_cases g5 : b = 45
              · subst g5
                go_wp2
                go_ret
                exact ⟨by rw [unhide HN]; rfl, rfl⟩
              · have i5 : ((b : Int) == 45) = false := bneI (by omega)
                clear g5
                go_wp2
                go_ret
                exact ⟨by rw [unhide HN]; rfl, rfl⟩
        · have ik : ((k : Int) == 0) = false := bneI (by omega)
          have hk0 : 0 < k := by omega
          rw [Bool.false_or] at HST N2
          by_cases gm : (48 ≤ b ∧ b ≤ 58) ∨ b = 45
          · have em : moreN b = true := decide_eq_true gm
            rw [em] at HST
            clear N1 N2 em
            by_cases g3 : 48 ≤ b
            · have i3 : (48 : Int) ≤ (b : Int) := by omega
              have i4 : (b : Int) ≤ 58 := by omega
              have i1 : decide ((97 : Int) ≤ (b : Int)) = false := decide_eq_false (by omega)
              clear g1 gm g3 gk
              go_wp2
              go_roundw
              case rel => exact ⟨k + 1, by omega, by go_num, by rw [unhide HR, unhide HST]; rfl, fun _ => unhide H0 hk0, by first | exact rfl | trivial⟩
              case measure => simp [intOf]; omega
            · have hb45 : b = 45 := by omega
              subst hb45
              clear g1 gm g3 gk
              go_wp2
              go_roundw
              case rel => exact ⟨k + 1, by omega, by go_num, by rw [unhide HR, unhide HST]; rfl, fun _ => unhide H0 hk0, by first | exact rfl | trivial⟩
              case measure => simp [intOf]; omega
          · have em : moreN b = false := decide_eq_false gm
            have HN := hide (unhide N2 em)
            have i5 : ((b : Int) == 45) = false := bneI (by omega)
            clear N1 N2 em
            by_cases g3 : 48 ≤ b
            · have i3 : (48 : Int) ≤ (b : Int) := by omega
              have i4 : decide ((b : Int) ≤ 58) = false := decide_eq_false (by omega)
              by_cases g2 : 97 ≤ b
              · have i1 : (97 : Int) ≤ (b : Int) := by omega
                have i2 : decide ((b : Int) ≤ 122) = false := decide_eq_false (by omega)
                clear g1 gm g3 gk
                go_wp2
                go_ret
                exact ⟨by rw [unhide HN]; rfl, rfl⟩
              · have i1 : decide ((97 : Int) ≤ (b : Int)) = false := decide_eq_false (by omega)
                clear g1 gm g3 gk g2
                go_wp2
                go_ret
                exact ⟨by rw [unhide HN]; rfl, rfl⟩
            · have i3 : decide ((48 : Int) ≤ (b : Int)) = false := decide_eq_false (by omega)
              have i1 : decide ((97 : Int) ≤ (b : Int)) = false := decide_eq_false (by omega)
              clear g1 gm g3 gk
              go_wp2
              go_ret
              exact ⟨by rw [unhide HN]; rfl, rfl⟩
    · have he : allN okN s.data.toList = true := by rw [unhide HR]; exact allN_end _ (by rw [data_len]; omega)
      have hks : k = s.size := by omega
      have hv : nameB s.data.toList = (decide ((0 : Int) < (s.size : Int)) && decide ((s.size : Int) < 25)) := by
        unfold nameB
        rw [he, data_len]
        by_cases hz : 0 < s.size
        · rw [unhide H0 (by omega), decide_eq_true (show (0 : Int) < (s.size : Int) by omega)]
          by_cases h25 : s.size ≤ 24
          · rw [decide_eq_true ⟨hz, h25⟩, decide_eq_true (show (s.size : Int) < 25 by omega)]; rfl
          · rw [decide_eq_false (by omega), decide_eq_false (show ¬ (s.size : Int) < 25 by omega)]; rfl
        · rw [decide_eq_false (by omega), decide_eq_false (show ¬ (0 : Int) < (s.size : Int) by omega)]; rfl
      have HV := hide hv
      clear hv he
      by_cases hz : 0 < s.size
      · have j1 : (0 : Int) < (s.size : Int) := by omega
        by_cases h25 : s.size < 25
        · have j2 : (s.size : Int) < 25 := by omega
          rw [decide_eq_true j1, decide_eq_true j2] at HV
          go_wp2
          go_ret
          exact ⟨by rw [unhide HV]; rfl, rfl⟩
        · have j2 : decide ((s.size : Int) < 25) = false := decide_eq_false (by omega)
          rw [decide_eq_true j1, j2] at HV
          clear h25
          go_wp2
          go_ret
          exact ⟨by rw [unhide HV]; rfl, rfl⟩
      · have j1 : decide ((0 : Int) < (s.size : Int)) = false := decide_eq_false (by omega)
        rw [j1, Bool.false_and] at HV
        have j0 : s.size = 0 := by omega
        clear hz j1
        go_wp2
        go_ret
        exact ⟨by rw [unhide HV]; rfl, rfl⟩

end Go.Proofs.YtfdhmhdemfbfeaaGreatDoor
