/-
  'policy.hasRulesOnce': whether no two rules have one name.
-/
import Derived.Test.YtfdhmhdemfbfeaaWTw
namespace Go.Proofs.Ytfdhmhdemfbfeaa
open Go.RowKit
set_option linter.unusedVariables false

def nmsK (rs : List PRul) (k : Nat) : List ByteArray := (rs.take k).map PRul.nm
theorem nmsK_next (rs : List PRul) (k : Nat) (h : k < rs.length) : nmsK rs (k + 1) = nmsK rs k ++ [(rs.getD k noR).nm] := by
  rw [nmsK, List.take_add_one, List.getElem?_eq_getElem h, List.getD, List.getElem?_eq_getElem h, List.map_append]; rfl
theorem nmsK_len (rs : List PRul) (k : Nat) (h : k ≤ rs.length) : (nmsK rs k).length = k := by rw [nmsK, List.length_map, List.length_take]; omega
theorem nmsK_all (rs : List PRul) : nmsK rs rs.length = rs.map PRul.nm := by rw [nmsK, List.take_length]

set_option maxHeartbeats 2000000 in
theorem once_any (v : Value) (p : PPol) (w : World) (hv : PolV w v p) (h60 : p.rs.length ≤ 60) :
    Calls Try.prog 39 #[v] w fun e w' => e = .returned (.bool (!twB (p.rs.map PRul.nm))) ∧ Below w.heap.size w w' := by
  obtain ⟨vr, vs, rfl, h1, h2⟩ := hv
  obtain ⟨a2, c2, rfl⟩ := h2.slice
  have HRV := hide h1
  obtain ⟨_, a1, c1, rfl, _⟩ := h1
  unfold polC
  clear h2
  obtain ⟨rs, sc, ot, st⟩ := p
  dsimp only at *
  have CT := hide (fun v w h => twice_any v (rs.map PRul.nm) w h)
  generalize twB (rs.map PRul.nm) = D at *
  have HA := hide (nmsK_all rs)
  have HL := hide (nmsK_len rs)
  generalize sc.length = n2 at *
  obtain ⟨i0, hi, hz0, hz1, hz2⟩ := info_parts Try.infoStr
  go_enter Try.func39, Try.ntmps39
  go_wp2
  go_loopw [3, 9] (fun x i wr => ∃ (k : Nat) (vn : Value), k ≤ rs.length ∧ i = .int .i64 k ∧ vn = x ∧ wr.ownsRow w.heap.size 9 1 vn k ((nmsK rs k).map Value.string) ∧ Below w.heap.size w wr) (fun _ i _ => rs.length - (intOf i).toNat)
  case atStart => exact ⟨0, _, Nat.zero_le _, rfl, rfl, World.ownsRow_nil _ _ _ _, (Below.refl _ _).alloc (Nat.le_refl _) _⟩
  case round =>
    obtain ⟨k, vn, hk, rfl, rfl, hown, hbw⟩ := hrel
    have hsz := hbw.size
    by_cases hp : k < rs.length
    · have hpi : (k : Int) < (rs.length : Int) := by omega
      obtain ⟨_, a9, c9, e9, hcs⟩ := (unhide HRV).below hbw
      cases e9
      obtain ⟨b, off, rfl, hcell⟩ := hcs (by omega)
      obtain ⟨va, vl, d0, d1, d2, d3, hva, hvl⟩ := hcell k hp
      obtain ⟨q1, m1, rfl⟩ := hva.1.slice
      obtain ⟨q2, m2, rfl⟩ := hvl.1.slice
      have hnx := hide (nmsK_next rs k hp)
      have hlk := hide (nmsK_len rs k hk)
      clear hcell hva hvl
      generalize rs.getD k noR = r at *
      obtain ⟨nm, ac, ats, lks⟩ := r
      dsimp only at *
      generalize ats.length = l1 at *
      generalize lks.length = l2 at *
      go_wp2_with (at_builtin; refine wpList_append_own _ rfl _ _ 23 rfl w.heap.size 9 i0 (.string ⟨#[]⟩) 1 16 Try.underlying23 hi hz0 hz1 hz2 rfl (by decide) _ _ _ rfl ((hown.alloc _).alloc _) ⟨wr.heap.size + 1, 0, none⟩ 1 1 [.string nm] rfl rfl ?c1 ?c2 ?c3 ?c4 ?c5 ?_)
      case c1 =>
        intro j u hj
        match j with
        | 0 =>
          cases hj
          have h9 := (Blk.new (wr.alloc (Obj.cells #[.string nm, .int .i64 ac, .slice q1 l1 m1, .slice q2 l2 m2] 53)) #[.string nm] 9).cell 0
          rw [show (wr.alloc (Obj.cells #[.string nm, .int .i64 ac, .slice q1 l1 m1, .slice q2 l2 m2] 53)).heap.size = wr.heap.size + 1 from by simp] at h9
          exact h9
        | j + 1 => simp at hj
      case c2 => intro u hu; simp at hu; subst hu; rfl
      case c3 => unfold maxLen; omega
      case c4 => omega
      case c5 => simp; omega
      intro v' w2 hown' hgrow _
      have hbig : Below w.heap.size w w2 := ((hbw.alloc (by omega) _).alloc (by simp; omega) _).grown hgrow (by simp; omega) (fun j hj => (hown.lt j hj).1)
      clear hgrow
      go_wp2
      go_roundw
      case rel => exact ⟨k + 1, _, by omega, by go_num, rfl, by rw [unhide hnx, List.map_append]; exact hown', hbig⟩
      case measure => simp [intOf]; omega
    · have hkn : k = rs.length := by omega
      have hv : TxV wr vn (rs.map PRul.nm) := by
        have h3 := hown
        rw [hkn, unhide HA] at h3
        refine tx_of_owns (base := w.heap.size) ?_
        rw [List.length_map]
        exact h3
      obtain ⟨an, cn, hvn⟩ := hv.view.slice
      rw [List.length_map] at hvn
      subst hvn
      have C := hide (unhide CT _ _ hv)
      clear hv hown
      go_wp2_with fail
      refine (unhide C).mono ?_
      rintro e1 w1 ⟨rfl, hw1⟩
      obtain rfl : wr = w1 := hw1.symm
      go_wp2
      go_ret
      exact ⟨rfl, hbw⟩
end Go.Proofs.Ytfdhmhdemfbfeaa
