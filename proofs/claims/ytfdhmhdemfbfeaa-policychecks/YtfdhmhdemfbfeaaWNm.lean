/-
  'policy.hasNames', 'mayBeKept', 'hasSmallSchemes'.
-/
import Derived.Test.YtfdhmhdemfbfeaaWPl
import Derived.Test.YtfdhmhdemfbfeaaDNm
import Derived.Test.YtfdhmhdemfbfeaaMgP
namespace Go.Proofs.Ytfdhmhdemfbfeaa
open Go.RowKit
set_option linter.unusedVariables false

def isN (s : ByteArray) : Bool := nameB s.data.toList
theorem nno_any (s : ByteArray) (w : World) (hs : s.size ≤ 9223372036854775807) :
    Calls Try.prog 60 #[.string s] w fun e w' => e = .returned (.bool (!isN s)) ∧ Below w.heap.size w w' := by
  have C := hide (fun w => pname_any s w hs)
  unfold isN
  generalize nameB s.data.toList = D at *
  go_enter Try.func60, Try.ntmps60
  go_wp2_with fail
  refine (unhide C _).mono ?_
  rintro e1 w1 ⟨rfl, hb1⟩
  go_wp2
  go_ret
  exact ⟨rfl, hb1⟩

/-- Are the first k names? -/
def okK (zs : List ByteArray) (k : Nat) : Prop := ∀ j, j < k → isN (zs.getD j ByteArray.empty) = true
theorem ok_all {zs : List ByteArray} (h : okK zs zs.length) : zs.all isN = true := by
  rw [List.all_eq_true]
  intro x hx
  obtain ⟨j, hj, e⟩ := List.getElem_of_mem hx
  have := h j hj
  rw [List.getD, List.getElem?_eq_getElem hj] at this
  rw [← e]; exact this
theorem ok_not {zs : List ByteArray} {k : Nat} (hk : k < zs.length) (h : isN (zs.getD k ByteArray.empty) = false) : zs.all isN = false := by
  rw [List.all_eq_false]
  refine ⟨zs.getD k ByteArray.empty, getD_in _ _ _ hk, by rw [h]; decide⟩

def IdxSaid (b : Bool) (e : Ending) : Prop := ∃ i : Int, e = .returned (.int .i64 i) ∧ decide (0 ≤ i) = b
set_option maxHeartbeats 1000000 in
theorem idxf_any (v : Value) (zs : List ByteArray) (w : World) (hv : View w v zs) (hs : ∀ s ∈ zs, s.size ≤ 9223372036854775807) :
    Calls Try.prog 83 #[v, .func (Fn.func 60) #[] #[]] w fun e w' => IdxSaid (!zs.all isN) e ∧ Below w.heap.size w w' := by
  have HV := hide hv
  obtain ⟨hl, a, cap, rfl, _⟩ := hv
  have HN := hide (@ok_all zs)
  have HY := hide (fun k hk h => @ok_not zs k hk h)
  have CC := hide (fun k (hk : k < zs.length) w => nno_any (zs.getD k ByteArray.empty) w (hs _ (getD_in _ _ _ hk)))
  go_enter Try.func83, Try.ntmps83
  go_wp2
  go_loopw [8] (fun i wr => ∃ k : Nat, k ≤ zs.length ∧ i = .int .i64 k ∧ okK zs k ∧ Below w.heap.size w wr) (fun i _ => zs.length - (intOf i).toNat)
  case atStart => exact ⟨0, Nat.zero_le _, rfl, fun j hj => absurd hj (Nat.not_lt_zero _), Below.refl _ _⟩
  case round =>
    obtain ⟨k, hk, rfl, hr, hbw⟩ := hrel
    have HR := hide hr
    clear hr
    by_cases hp : k < zs.length
    · have hpi : (k : Int) < (zs.length : Int) := by omega
      obtain ⟨_, a9, c9, e9, hc⟩ := view_below (unhide HV) hbw
      cases e9
      obtain ⟨b, off, rfl, hcell⟩ := hc (by omega)
      have hck := hcell k hp
      have hyk := unhide HY k hp
      have C := hide (unhide CC k hp)
      have HR2 : Hid (isN (zs.getD k ByteArray.empty) = true → okK zs (k + 1)) := hide (fun hx j hj => by
        by_cases ej : j = k
        · rw [ej]; exact hx
        · exact unhide HR j (by omega))
      clear hcell hc
      cases hx : isN (zs.getD k ByteArray.empty) with
      | false =>
        rw [hx] at C
        have H := hide (hyk hx)
        clear hyk hx HR2
        generalize zs.getD k ByteArray.empty = y at *
        go_wp2_with fail
        refine (unhide C _).mono ?_
        rintro e1 w1 ⟨rfl, hb1⟩
        go_wp2
        go_ret
        exact ⟨⟨_, rfl, by rw [unhide H]; simp⟩, tr2 hbw hb1⟩
      | true =>
        rw [hx] at C
        have H := hide (unhide HR2 hx)
        clear hyk hx HR2
        generalize zs.getD k ByteArray.empty = y at *
        go_wp2_with fail
        refine (unhide C _).mono ?_
        rintro e1 w1 ⟨rfl, hb1⟩
        go_wp2
        go_roundw
        case rel => exact ⟨k + 1, by omega, by go_num, unhide H, tr2 hbw hb1⟩
        case measure => simp [intOf]; omega
    · have hkn : k = zs.length := by omega
      have hn := unhide HN (by rw [← hkn]; exact unhide HR)
      have H := hide hn
      clear hn
      go_wp2
      go_ret
      exact ⟨⟨_, rfl, by rw [unhide H]; decide⟩, hbw⟩

set_option maxHeartbeats 1000000 in
theorem contf_any (v : Value) (zs : List ByteArray) (w : World) (hv : View w v zs) (hs : ∀ s ∈ zs, s.size ≤ 9223372036854775807) :
    Calls Try.prog 62 #[v, .func (Fn.func 60) #[] #[]] w fun e w' => e = .returned (.bool (!zs.all isN)) ∧ Below w.heap.size w w' := by
  have C := hide (idxf_any v zs w hv hs)
  obtain ⟨hl, a, cap, rfl, _⟩ := hv
  generalize zs.all isN = D at *
  go_enter Try.func62, Try.ntmps62
  go_wp2_with fail
  refine (unhide C).mono ?_
  rintro e1 w1 ⟨⟨i, rfl, hi⟩, hb1⟩
  go_wp2
  go_ret
  exact ⟨rfl, hb1⟩

def nmsB (r : PRul) : Bool := isN r.nm && (r.ats.all isN && r.lks.all isN)
set_option maxHeartbeats 1000000 in
theorem names_any (v : Value) (r : PRul) (w : World) (hv : RulV w v r) (ho : RulOk r) :
    Calls Try.prog 42 #[v] w fun e w' => e = .returned (.bool (nmsB r)) ∧ Below w.heap.size w w' := by
  obtain ⟨va, vl, rfl, h1, h2⟩ := hv
  have C1 := hide (fun w => pname_any r.nm w ho.1)
  have C2 := hide (fun W hW => contf_any va r.ats W (view_below (w := w) h1.1 hW) ho.2.1)
  have C3 := hide (fun W hW => contf_any vl r.lks W (view_below (w := w) h2.1 hW) ho.2.2.1)
  obtain ⟨a1, c1, rfl⟩ := h1.1.slice
  obtain ⟨a2, c2, rfl⟩ := h2.1.slice
  unfold rulC nmsB isN
  clear h1 h2 ho
  obtain ⟨nm, ac, ats, lks⟩ := r
  dsimp only at *
  have K : Hid (Blk (w.alloc (Obj.cells #[.string nm, .int .i64 ac, .slice a1 ats.length c1, .slice a2 lks.length c2] 53)) w.heap.size #[.string nm, .int .i64 ac, .slice a1 ats.length c1, .slice a2 lks.length c2] 53) := hide (Blk.new w _ _)
  change Hid (∀ W, Below w.heap.size w W → Calls _ _ _ W fun e w' => e = .returned (.bool (!ats.all (fun s => nameB s.data.toList))) ∧ _) at C2
  change Hid (∀ W, Below w.heap.size w W → Calls _ _ _ W fun e w' => e = .returned (.bool (!lks.all (fun s => nameB s.data.toList))) ∧ _) at C3
  generalize nameB nm.data.toList = D1 at *
  generalize (ats.all fun s => nameB s.data.toList) = D2 at *
  generalize (lks.all fun s => nameB s.data.toList) = D3 at *
  have al := (Below.refl w.heap.size w).alloc (Nat.le_refl _) (Obj.cells #[.string nm, .int .i64 ac, .slice a1 ats.length c1, .slice a2 lks.length c2] 53)
  generalize ats.length = n1 at *
  generalize lks.length = n2 at *
  go_enter Try.func42, Try.ntmps42
  go_wp2_with fail
  refine (unhide C1 _).mono ?_
  rintro e1 w1 ⟨rfl, hb1⟩
  have K1 := hide ((unhide K).later hb1)
  have hb01 := al.trans (hb1.mono (by simp))
  have k2 : w1.cell? ⟨w.heap.size, 2, none⟩ = some (.slice a1 n1 c1) := (unhide K1).cell 2
  clear hb1 al
  cases D1 with
  | false =>
    go_wp2
    go_ret
    exact ⟨rfl, hb01⟩
  | true =>
    go_wp2_with fail
    refine (unhide C2 _ hb01).mono ?_
    rintro e1 w2 ⟨rfl, hb2⟩
    have K2 := hide ((unhide K1).later hb2)
    have hb02 := tr2 hb01 hb2
    have k3 : w2.cell? ⟨w.heap.size, 3, none⟩ = some (.slice a2 n2 c2) := (unhide K2).cell 3
    clear hb2 hb01 k2
    cases D2 with
    | false =>
      go_wp2
      go_ret
      exact ⟨rfl, hb02⟩
    | true =>
      go_wp2_with fail
      refine (unhide C3 _ hb02).mono ?_
      rintro e1 w3 ⟨rfl, hb3⟩
      go_wp2
      go_ret
      exact ⟨by simp, tr2 hb02 hb3⟩
end Go.Proofs.Ytfdhmhdemfbfeaa
