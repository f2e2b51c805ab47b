/-
  Several texts in one: what the functions of the program and of the document's answer do.
-/
import Derived.Test.YtfdhmhdemfbfeaaGreatDoorMgAA
import Derived.Test.YtfdhmhdemfbfeaaGreatDoorMgAK
import Derived.Test.YtfdhmhdemfbfeaaGreatDoorMgAL

/-
  The names that mean something, told plainly: which stand in which list.
-/
namespace Go.Proofs.YtfdhmhdemfbfeaaGreatDoor
open Go.RowKit
set_option linter.unusedVariables false

def inB (l : List UInt8) (ns : List (List UInt8)) : Bool := ns.any (fun n => l == n)
def gN : Nat → List (List UInt8)
  | 1 => [[104, 116, 109, 108], [104, 101, 97, 100], [98, 111, 100, 121], [102, 114, 97, 109, 101], [102, 114, 97, 109, 101, 115, 101, 116]]
  | 2 => [[99, 97, 112, 116, 105, 111, 110], [116, 98, 111, 100, 121], [116, 104, 101, 97, 100], [116, 114], [116, 100], [116, 104]]
  | 3 => [[116, 97, 98, 108, 101]]
  | 4 => [[98, 108, 111, 99, 107, 113, 117, 111, 116, 101], [100, 105, 118], [111, 108], [115, 101, 99, 116, 105, 111, 110], [117, 108]]
  | 5 => [[112]]
  | 6 => [[104, 49], [104, 50], [104, 51]]
  | 7 => [[112, 114, 101]]
  | 8 => [[108, 105]]
  | 9 => [[97]]
  | 10 => [[98], [99, 111, 100, 101], [101, 109], [105], [115, 116, 114, 111, 110, 103], [117]]
  | 11 => [[98, 114], [105, 109, 103], [105, 110, 112, 117, 116], [119, 98, 114]]
  | 12 => [[104, 114]]
  | 13 => [[116, 105, 116, 108, 101]]
  | 14 => [[116, 101, 120, 116, 97, 114, 101, 97]]
  | 15 => [[115, 99, 114, 105, 112, 116], [115, 116, 121, 108, 101]]
  | 16 => [[120, 109, 112]]
  | 17 => [[109, 97, 116, 104], [115, 118, 103]]
  | _ => []
def ofN (l : List UInt8) : Nat := if inB l (gN 1) then 1 else if inB l (gN 2) then 2 else if inB l (gN 3) then 3 else if inB l (gN 4) then 4 else if inB l (gN 5) then 5 else if inB l (gN 6) then 6 else if inB l (gN 7) then 7 else if inB l (gN 8) then 8 else if inB l (gN 9) then 9 else if inB l (gN 10) then 10 else if inB l (gN 11) then 11 else if inB l (gN 12) then 12 else if inB l (gN 13) then 13 else if inB l (gN 14) then 14 else if inB l (gN 15) then 15 else if inB l (gN 16) then 16 else if inB l (gN 17) then 17 else 0
def voidNs : List (List UInt8) := [[98, 114], [104, 114], [105, 109, 103], [105, 110, 112, 117, 116], [119, 98, 114]]
def mathNs : List (List UInt8) := [[109, 105], [109, 110], [109, 111], [109, 115], [109, 116, 101, 120, 116]]
def svgNs : List (List UInt8) := [[100, 101, 115, 99], [102, 111, 114, 101, 105, 103, 110, 111, 98, 106, 101, 99, 116], [116, 105, 116, 108, 101]]
def spcNs : List (List UInt8) := [[98, 108, 111, 99, 107, 113, 117, 111, 116, 101], [98, 111, 100, 121], [98, 114], [99, 97, 112, 116, 105, 111, 110], [100, 105, 118], [102, 114, 97, 109, 101], [102, 114, 97, 109, 101, 115, 101, 116], [104, 49], [104, 50], [104, 51], [104, 101, 97, 100], [104, 114], [104, 116, 109, 108], [105, 109, 103], [105, 110, 112, 117, 116], [108, 105], [111, 108], [112], [112, 114, 101], [115, 99, 114, 105, 112, 116], [115, 101, 99, 116, 105, 111, 110], [115, 116, 121, 108, 101], [116, 97, 98, 108, 101], [116, 98, 111, 100, 121], [116, 100], [116, 101, 120, 116, 97, 114, 101, 97], [116, 104], [116, 104, 101, 97, 100], [116, 105, 116, 108, 101], [116, 114], [117, 108], [119, 98, 114], [120, 109, 112]]
def endNs : List (List UInt8) := [[99, 97, 112, 116, 105, 111, 110], [104, 116, 109, 108], [116, 97, 98, 108, 101], [116, 100], [116, 104]]
def brkNs : List (List UInt8) := [[98], [98, 105, 103], [98, 108, 111, 99, 107, 113, 117, 111, 116, 101], [98, 111, 100, 121], [98, 114], [99, 101, 110, 116, 101, 114], [99, 111, 100, 101], [100, 100], [100, 105, 118], [100, 108], [100, 116], [101, 109], [101, 109, 98, 101, 100], [104, 49], [104, 50], [104, 51], [104, 52], [104, 53], [104, 54], [104, 101, 97, 100], [104, 114], [105], [105, 109, 103], [108, 105], [108, 105, 115, 116, 105, 110, 103], [109, 101, 110, 117], [109, 101, 116, 97], [110, 111, 98, 114], [111, 108], [112], [112, 114, 101], [114, 117, 98, 121], [115], [115, 109, 97, 108, 108], [115, 112, 97, 110], [115, 116, 114, 105, 107, 101], [115, 116, 114, 111, 110, 103], [115, 117, 98], [115, 117, 112], [116, 97, 98, 108, 101], [116, 116], [117], [117, 108], [118, 97, 114]]
def allNs : List (List UInt8) := [[104, 116, 109, 108], [104, 101, 97, 100], [98, 111, 100, 121], [102, 114, 97, 109, 101], [102, 114, 97, 109, 101, 115, 101, 116], [99, 97, 112, 116, 105, 111, 110], [116, 98, 111, 100, 121], [116, 104, 101, 97, 100], [116, 114], [116, 100], [116, 104], [116, 97, 98, 108, 101], [98, 108, 111, 99, 107, 113, 117, 111, 116, 101], [100, 105, 118], [111, 108], [115, 101, 99, 116, 105, 111, 110], [117, 108], [112], [104, 49], [104, 50], [104, 51], [112, 114, 101], [108, 105], [97], [98], [99, 111, 100, 101], [101, 109], [105], [115, 116, 114, 111, 110, 103], [117], [98, 114], [105, 109, 103], [105, 110, 112, 117, 116], [119, 98, 114], [104, 114], [116, 105, 116, 108, 101], [116, 101, 120, 116, 97, 114, 101, 97], [115, 99, 114, 105, 112, 116], [115, 116, 121, 108, 101], [120, 109, 112], [109, 97, 116, 104], [115, 118, 103], [109, 105], [109, 110], [109, 111], [109, 115], [109, 116, 101, 120, 116], [100, 101, 115, 99], [102, 111, 114, 101, 105, 103, 110, 111, 98, 106, 101, 99, 116], [98, 105, 103], [99, 101, 110, 116, 101, 114], [100, 100], [100, 108], [100, 116], [101, 109, 98, 101, 100], [104, 52], [104, 53], [104, 54], [108, 105, 115, 116, 105, 110, 103], [109, 101, 110, 117], [109, 101, 116, 97], [110, 111, 98, 114], [114, 117, 98, 121], [115], [115, 109, 97, 108, 108], [115, 112, 97, 110], [115, 116, 114, 105, 107, 101], [115, 117, 98], [115, 117, 112], [116, 116], [118, 97, 114]]
def againN (sp : Int) (l : List UInt8) : Int := if sp == 2 && inB l mathNs then 1 else if sp == 1 && inB l svgNs then 2 else 0
def spcB (sp : Int) (l : List UInt8) : Bool := (againN sp l != 0) || (sp == 0 && inB l spcNs)
def endB (sp : Int) (l : List UInt8) : Bool := (againN sp l != 0) || (sp == 0 && inB l endNs)

theorem inB_no {l : List UInt8} (h : ¬ l ∈ allNs) {ns : List (List UInt8)} (hs : ns.all (fun n => allNs.any (fun m => n == m)) = true) : inB l ns = false := by
  rw [inB, List.any_eq_false]
  intro n hn he
  have he' := beq_iff_eq.1 he
  subst he'
  have := List.all_eq_true.1 hs l hn
  obtain ⟨m, hm, e⟩ := List.any_eq_true.1 this
  rw [beq_iff_eq.1 e] at h
  exact h hm
theorem ofN_no {l : List UInt8} (h : ¬ l ∈ allNs) : ofN l = 0 := by
  unfold ofN
  rw [inB_no h (ns := gN 1) (by decide +kernel), inB_no h (ns := gN 2) (by decide +kernel), inB_no h (ns := gN 3) (by decide +kernel), inB_no h (ns := gN 4) (by decide +kernel), inB_no h (ns := gN 5) (by decide +kernel), inB_no h (ns := gN 6) (by decide +kernel), inB_no h (ns := gN 7) (by decide +kernel), inB_no h (ns := gN 8) (by decide +kernel), inB_no h (ns := gN 9) (by decide +kernel), inB_no h (ns := gN 10) (by decide +kernel), inB_no h (ns := gN 11) (by decide +kernel), inB_no h (ns := gN 12) (by decide +kernel), inB_no h (ns := gN 13) (by decide +kernel), inB_no h (ns := gN 14) (by decide +kernel), inB_no h (ns := gN 15) (by decide +kernel), inB_no h (ns := gN 16) (by decide +kernel), inB_no h (ns := gN 17) (by decide +kernel)]
  rfl
theorem againN_no {l : List UInt8} (h : ¬ l ∈ allNs) (sp : Int) : againN sp l = 0 := by
  unfold againN
  rw [inB_no h (ns := mathNs) (by decide +kernel), inB_no h (ns := svgNs) (by decide +kernel)]
  simp
theorem void_of (l : List UInt8) : (ofN l == 11 || ofN l == 12) = inB l voidNs := by
  by_cases h : l ∈ allNs
  · exact (by decide +kernel : ∀ l ∈ allNs, (ofN l == 11 || ofN l == 12) = inB l voidNs) l h
  · rw [ofN_no h, inB_no h (by decide +kernel)]; rfl
theorem special_of (l : List UInt8) : (!(ofN l == 9 || ofN l == 10 || ofN l == 17 || ofN l == 0)) = inB l spcNs := by
  by_cases h : l ∈ allNs
  · exact (by decide +kernel : ∀ l ∈ allNs, (!(ofN l == 9 || ofN l == 10 || ofN l == 17 || ofN l == 0)) = inB l spcNs) l h
  · rw [ofN_no h, inB_no h (by decide +kernel)]; rfl
theorem follows_of (l : List UInt8) : (!(inB l voidNs || ofN l == 4 || ofN l == 6 || ofN l == 2) || inB l spcNs) = true := by
  by_cases h : l ∈ allNs
  · exact (by decide +kernel : ∀ l ∈ allNs, (!(inB l voidNs || ofN l == 4 || ofN l == 6 || ofN l == 2) || inB l spcNs) = true) l h
  · rw [ofN_no h, inB_no h (by decide +kernel)]; rfl
theorem ends_of (l : List UInt8) : (!(inB l endNs) || inB l spcNs) = true := by
  by_cases h : l ∈ allNs
  · exact (by decide +kernel : ∀ l ∈ allNs, (!(inB l endNs) || inB l spcNs) = true) l h
  · rw [inB_no h (ns := endNs) (by decide +kernel)]; rfl
theorem format_of (l : List UInt8) : (!(ofN l == 10) || !(inB l spcNs || inB l mathNs || inB l svgNs)) = true := by
  by_cases h : l ∈ allNs
  · exact (by decide +kernel : ∀ l ∈ allNs, (!(ofN l == 10) || !(inB l spcNs || inB l mathNs || inB l svgNs)) = true) l h
  · rw [ofN_no h]; rfl
theorem endB_spc (sp : Int) (l : List UInt8) : (!(endB sp l) || spcB sp l) = true := by
  have := ends_of l
  unfold endB spcB
  revert this
  generalize againN sp l = a
  generalize inB l endNs = b
  generalize inB l spcNs = c
  cases a != 0 <;> cases sp == 0 <;> cases b <;> cases c <;> decide
theorem format_spc (sp : Int) (l : List UInt8) : (!(ofN l == 10) || !(spcB sp l)) = true := by
  have := format_of l
  unfold spcB againN
  revert this
  generalize inB l mathNs = a
  generalize inB l svgNs = b
  generalize inB l spcNs = c
  cases (ofN l == 10) <;> cases a <;> cases b <;> cases c <;> simp
theorem follows_spc (l : List UInt8) : (!(inB l voidNs || ofN l == 4 || ofN l == 6 || ofN l == 2) || spcB 0 l) = true := by
  have := follows_of l
  unfold spcB
  revert this
  generalize (inB l voidNs || ofN l == 4 || ofN l == 6 || ofN l == 2) = a
  generalize inB l spcNs = c
  cases a <;> cases c <;> simp
theorem none_spaces {sp : Int} (h : ¬ (0 ≤ sp ∧ sp ≤ 2)) (l : List UInt8) : againN sp l = 0 ∧ spcB sp l = false ∧ endB sp l = false := by
  have h0 : (sp == 0) = false := beq_eq_false_iff_ne.2 (by omega)
  have h1 : (sp == 1) = false := beq_eq_false_iff_ne.2 (by omega)
  have h2 : (sp == 2) = false := beq_eq_false_iff_ne.2 (by omega)
  simp [againN, spcB, endB, h0, h1, h2]
end Go.Proofs.YtfdhmhdemfbfeaaGreatDoor

/-
  What package tags does: of every name and space.
-/
namespace Go.Proofs.YtfdhmhdemfbfeaaGreatDoor
open Go.RowKit
set_option linter.unusedVariables false

theorem no_both {x : Bool} (h : x = true) (h' : x = false) : False := by rw [h] at h'; cases h'
set_option maxHeartbeats 4000000 in
theorem group_any (s : ByteArray) (w : World) :
    Calls Tryz.prog 69 #[.string s] w fun e w' => e = .returned (.int .i64 (ofN s.toList : Nat)) ∧ w' = w := by
  go_enter Tryz.func69, Tryz.ntmps69
  go_wp2_with (exact (no_both (by assumption) (by assumption)).elim)
  all_goals (go_ret; refine ⟨?_, rfl⟩; simp_all [ofN, gN, inB])

end Go.Proofs.YtfdhmhdemfbfeaaGreatDoor

/-
  'policy.hasNames', 'mayBeKept', 'hasSmallSchemes'.
-/
namespace Go.Proofs.YtfdhmhdemfbfeaaGreatDoor
open Go.RowKit
set_option linter.unusedVariables false

def isN (s : ByteArray) : Bool := nameB s.data.toList
theorem nno_any (s : ByteArray) (w : World) (hs : s.size ≤ 9223372036854775807) :
    Calls Tryz.prog 65 #[.string s] w fun e w' => e = .returned (.bool (!isN s)) ∧ Below w.heap.size w w' := by
  have C := hide (fun w => pname_any s w hs)
  unfold isN
  generalize nameB s.data.toList = D at *
  go_enter Tryz.func65, Tryz.ntmps65
  go_wp2_with fail
  refine (unhide C _).mono ?_
  rintro e1 w1 ⟨rfl, hb1⟩
  go_wp2
  go_ret
  exact ⟨rfl, hb1⟩

/-- Are the first k names? -/
def okK (zs : List ByteArray) (k : Nat) : Prop := ∀ j, j < k → isN (zs.getD j ByteArray.empty) = true
theorem ok_all {zs : List ByteArray} (h : okK zs zs.length) : zs.all isN = true := by
  rw [List.all_eq_true]
  intro x hx
  obtain ⟨j, hj, e⟩ := List.getElem_of_mem hx
  have := h j hj
  rw [List.getD, List.getElem?_eq_getElem hj] at this
  rw [← e]; exact this
theorem ok_not {zs : List ByteArray} {k : Nat} (hk : k < zs.length) (h : isN (zs.getD k ByteArray.empty) = false) : zs.all isN = false := by
  rw [List.all_eq_false]
  refine ⟨zs.getD k ByteArray.empty, getD_in _ _ _ hk, by rw [h]; decide⟩

def IdxSaid (b : Bool) (e : Ending) : Prop := ∃ i : Int, e = .returned (.int .i64 i) ∧ decide (0 ≤ i) = b
set_option maxHeartbeats 1000000 in
theorem idxf_any (v : Value) (zs : List ByteArray) (w : World) (hv : View w v zs) (hs : ∀ s ∈ zs, s.size ≤ 9223372036854775807) :
    Calls Tryz.prog 84 #[v, .func (Fn.func 65) #[] #[]] w fun e w' => IdxSaid (!zs.all isN) e ∧ Below w.heap.size w w' := by
  have HV := hide hv
  obtain ⟨hl, a, cap, rfl, _⟩ := hv
  have HN := hide (@ok_all zs)
  have HY := hide (fun k hk h => @ok_not zs k hk h)
  have CC := hide (fun k (hk : k < zs.length) w => nno_any (zs.getD k ByteArray.empty) w (hs _ (getD_in _ _ _ hk)))
  go_enter Tryz.func84, Tryz.ntmps84
  go_wp2
  go_loopw [8] (fun i wr => ∃ k : Nat, k ≤ zs.length ∧ i = .int .i64 k ∧ okK zs k ∧ Below w.heap.size w wr) (fun i _ => zs.length - (intOf i).toNat)
  case atStart => exact ⟨0, Nat.zero_le _, rfl, fun j hj => absurd hj (Nat.not_lt_zero _), Below.refl _ _⟩
  case round =>
    obtain ⟨k, hk, rfl, hr, hbw⟩ := hrel
    have HR := hide hr
    clear hr
    by_cases hp : k < zs.length
    · have hpi : (k : Int) < (zs.length : Int) := by omega
      obtain ⟨_, a9, c9, e9, hc⟩ := view_below (unhide HV) hbw
      cases e9
      obtain ⟨b, off, rfl, hcell⟩ := hc (by omega)
      have hck := hcell k hp
      have hyk := unhide HY k hp
      have C := hide (unhide CC k hp)
      have HR2 : Hid (isN (zs.getD k ByteArray.empty) = true → okK zs (k + 1)) := hide (fun hx j hj => by
        by_cases ej : j = k
        · rw [ej]; exact hx
        · exact unhide HR j (by omega))
      clear hcell hc
      cases hx : isN (zs.getD k ByteArray.empty) with
      | false =>
        rw [hx] at C
        have H := hide (hyk hx)
        clear hyk hx HR2
        generalize zs.getD k ByteArray.empty = y at *
        go_wp2_with fail
        refine (unhide C _).mono ?_
        rintro e1 w1 ⟨rfl, hb1⟩
        go_wp2
        go_ret
        exact ⟨⟨_, rfl, by rw [unhide H]; simp⟩, tr2 hbw hb1⟩
      | true =>
        rw [hx] at C
        have H := hide (unhide HR2 hx)
        clear hyk hx HR2
        generalize zs.getD k ByteArray.empty = y at *
        go_wp2_with fail
        refine (unhide C _).mono ?_
        rintro e1 w1 ⟨rfl, hb1⟩
        go_wp2
        go_roundw
        case rel => exact ⟨k + 1, by omega, by go_num, unhide H, tr2 hbw hb1⟩
        case measure => simp [intOf]; omega
    · have hkn : k = zs.length := by omega
      have hn := unhide HN (by rw [← hkn]; exact unhide HR)
      have H := hide hn
      clear hn
      go_wp2
      go_ret
      exact ⟨⟨_, rfl, by rw [unhide H]; decide⟩, hbw⟩

set_option maxHeartbeats 1000000 in
theorem contf_any (v : Value) (zs : List ByteArray) (w : World) (hv : View w v zs) (hs : ∀ s ∈ zs, s.size ≤ 9223372036854775807) :
    Calls Tryz.prog 67 #[v, .func (Fn.func 65) #[] #[]] w fun e w' => e = .returned (.bool (!zs.all isN)) ∧ Below w.heap.size w w' := by
  have C := hide (idxf_any v zs w hv hs)
  obtain ⟨hl, a, cap, rfl, _⟩ := hv
  generalize zs.all isN = D at *
  go_enter Tryz.func67, Tryz.ntmps67
  go_wp2_with fail
  refine (unhide C).mono ?_
  rintro e1 w1 ⟨⟨i, rfl, hi⟩, hb1⟩
  go_wp2
  go_ret
  exact ⟨rfl, hb1⟩

def nmsB (r : PRul) : Bool := isN r.nm && (r.ats.all isN && r.lks.all isN)
set_option maxHeartbeats 1000000 in
theorem names_any (v : Value) (r : PRul) (w : World) (hv : RulV w v r) (ho : RulOk r) :
    Calls Tryz.prog 47 #[v] w fun e w' => e = .returned (.bool (nmsB r)) ∧ Below w.heap.size w w' := by
  obtain ⟨va, vl, rfl, h1, h2⟩ := hv
  have C1 := hide (fun w => pname_any r.nm w ho.1)
  have C2 := hide (fun W hW => contf_any va r.ats W (view_below (w := w) h1.1 hW) ho.2.1)
  have C3 := hide (fun W hW => contf_any vl r.lks W (view_below (w := w) h2.1 hW) ho.2.2.1)
  obtain ⟨a1, c1, rfl⟩ := h1.1.slice
  obtain ⟨a2, c2, rfl⟩ := h2.1.slice
  unfold rulC nmsB isN
  clear h1 h2 ho
  obtain ⟨nm, ac, ats, lks⟩ := r
  dsimp only at *
  have K : Hid (Blk (w.alloc (Obj.cells #[.string nm, .int .i64 ac, .slice a1 ats.length c1, .slice a2 lks.length c2] 41)) w.heap.size #[.string nm, .int .i64 ac, .slice a1 ats.length c1, .slice a2 lks.length c2] 41) := hide (Blk.new w _ _)
  change Hid (∀ W, Below w.heap.size w W → Calls _ _ _ W fun e w' => e = .returned (.bool (!ats.all (fun s => nameB s.data.toList))) ∧ _) at C2
  change Hid (∀ W, Below w.heap.size w W → Calls _ _ _ W fun e w' => e = .returned (.bool (!lks.all (fun s => nameB s.data.toList))) ∧ _) at C3
  generalize nameB nm.data.toList = D1 at *
  generalize (ats.all fun s => nameB s.data.toList) = D2 at *
  generalize (lks.all fun s => nameB s.data.toList) = D3 at *
  have al := (Below.refl w.heap.size w).alloc (Nat.le_refl _) (Obj.cells #[.string nm, .int .i64 ac, .slice a1 ats.length c1, .slice a2 lks.length c2] 41)
  generalize ats.length = n1 at *
  generalize lks.length = n2 at *
  go_enter Tryz.func47, Tryz.ntmps47
  go_wp2_with fail
  refine (unhide C1 _).mono ?_
  rintro e1 w1 ⟨rfl, hb1⟩
  have K1 := hide ((unhide K).later hb1)
  have hb01 := al.trans (hb1.mono (by simp))
  have k2 : w1.cell? ⟨w.heap.size, 2, none⟩ = some (.slice a1 n1 c1) := (unhide K1).cell 2
  clear hb1 al
  cases D1 with
  | false =>
    go_wp2
    go_ret
    exact ⟨rfl, hb01⟩
  | true =>
    go_wp2_with fail
    refine (unhide C2 _ hb01).mono ?_
    rintro e1 w2 ⟨rfl, hb2⟩
    have K2 := hide ((unhide K1).later hb2)
    have hb02 := tr2 hb01 hb2
    have k3 : w2.cell? ⟨w.heap.size, 3, none⟩ = some (.slice a2 n2 c2) := (unhide K2).cell 3
    clear hb2 hb01 k2
    cases D2 with
    | false =>
      go_wp2
      go_ret
      exact ⟨rfl, hb02⟩
    | true =>
      go_wp2_with fail
      refine (unhide C3 _ hb02).mono ?_
      rintro e1 w3 ⟨rfl, hb3⟩
      go_wp2
      go_ret
      exact ⟨by simp, tr2 hb02 hb3⟩
end Go.Proofs.YtfdhmhdemfbfeaaGreatDoor
