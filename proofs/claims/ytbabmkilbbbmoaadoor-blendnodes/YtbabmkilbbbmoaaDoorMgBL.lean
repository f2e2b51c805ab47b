/-
  Several texts in one: what the functions of the program and of the document's answer do.
-/
import Derived.Test.YtbabmkilbbbmoaaDoorMgAB
import Derived.Test.YtbabmkilbbbmoaaDoorMgAF
import Derived.Deep.RegionWith
import Derived.Deep.LoopGhost

/-
  The pairs of two lists, plainly: whole ones, and between them those of alike ones.
-/
namespace Go.Proofs.YtbabmkilbbbmoaaDoor
set_option linter.unusedVariables false
set_option linter.unusedSimpArgs false

/-- The first place from j on, f places far at most. -/
def fdF (q : Nat → Bool) : Nat → Nat → Option Nat
  | 0, _ => none
  | f + 1, j => if q j = true then some j else fdF q f (j + 1)
theorem fdF_none (q : Nat → Bool) : ∀ (f j : Nat), (∀ y, j ≤ y → y < j + f → q y = false) → fdF q f j = none
  | 0, _, _ => rfl
  | f + 1, j, h => by
    rw [fdF, if_neg (by rw [h j (Nat.le_refl _) (by omega)]; decide)]
    exact fdF_none q f (j + 1) (fun y h1 h2 => h y (by omega) (by omega))
theorem fdF_some (q : Nat → Bool) : ∀ (f j x : Nat), j ≤ x → x < j + f → (∀ y, j ≤ y → y < x → q y = false) → q x = true → fdF q f j = some x
  | 0, j, x, h1, h2, _, _ => by omega
  | f + 1, j, x, h1, h2, hn, hx => by
    by_cases e : x = j
    · subst e; rw [fdF, if_pos hx]
    · rw [fdF, if_neg (by rw [hn j (Nat.le_refl _) (by omega)]; decide)]
      exact fdF_some q f (j + 1) x (by omega) (by omega) (fun y a b => hn y (by omega) b) hx
theorem fdF_in (q : Nat → Bool) : ∀ (f j x : Nat), fdF q f j = some x → j ≤ x ∧ x < j + f ∧ q x = true
  | 0, _, _, h => by cases h
  | f + 1, j, x, h => by
    rw [fdF] at h
    split at h
    · rename_i e; cases h; exact ⟨Nat.le_refl _, by omega, e⟩
    · have := fdF_in q f (j + 1) x h; exact ⟨by omega, by omega, this.2.2⟩
/-- The pairs of alike ones of a gap: from place i on, f places, and from j up to j1. -/
def alF (A : Nat → Nat → Bool) (j1 : Nat) : Nat → Nat → Nat → List (Nat × Nat)
  | 0, _, _ => []
  | f + 1, i, j => match fdF (A i) (j1 - j) j with
    | some x => (i, x) :: alF A j1 f (i + 1) (x + 1)
    | none => alF A j1 f (i + 1) j
theorem alF_some {A : Nat → Nat → Bool} {j1 f i j x : Nat} (h : fdF (A i) (j1 - j) j = some x) : alF A j1 (f + 1) i j = (i, x) :: alF A j1 f (i + 1) (x + 1) := by rw [alF, h]
theorem alF_none {A : Nat → Nat → Bool} {j1 f i j : Nat} (h : fdF (A i) (j1 - j) j = none) : alF A j1 (f + 1) i j = alF A j1 f (i + 1) j := by rw [alF, h]
theorem alF_len (A : Nat → Nat → Bool) (j1 : Nat) : ∀ (f i j : Nat), (alF A j1 f i j).length ≤ f
  | 0, _, _ => Nat.le_refl _
  | f + 1, i, j => by
    rw [alF]
    cases fdF (A i) (j1 - j) j with
    | some x => have := alF_len A j1 f (i + 1) (x + 1); simp only [List.length_cons]; omega
    | none => have := alF_len A j1 f (i + 1) j; show (alF A j1 f (i + 1) j).length ≤ _; omega
def whB (b : Bool) (L : List (Nat × Nat)) : List (Int × Int × Bool) := L.map (fun p => ((p.1 : Int), (p.2 : Int), b))
/-- What match makes of whole pairs. -/
def mtF (A : Nat → Nat → Bool) (n m : Nat) : Nat → Nat → List (Nat × Nat) → List (Int × Int × Bool)
  | i, j, [] => whB false (alF A m (n - i) i j)
  | i, j, p :: r => whB false (alF A p.2 (p.1 - i) i j) ++ ((p.1 : Int), (p.2 : Int), true) :: mtF A n m (p.1 + 1) (p.2 + 1) r
/-- The like, place by place (the document's answer): P are the whole pairs from here on. -/
def rlF (A : Nat → Nat → Bool) (m : Nat) : Nat → Nat → Nat → List (Nat × Nat) → List (Int × Int × Bool)
  | 0, _, _, _ => []
  | f + 1, i, j, [] => (match fdF (A i) (m - j) j with
    | some x => ((i : Int), (x : Int), false) :: rlF A m f (i + 1) (x + 1) []
    | none => rlF A m f (i + 1) j [])
  | f + 1, i, j, p :: r => if p.1 = i then ((i : Int), (p.2 : Int), true) :: rlF A m f (i + 1) (p.2 + 1) r else (match fdF (A i) (p.2 - j) j with
    | some x => ((i : Int), (x : Int), false) :: rlF A m f (i + 1) (x + 1) (p :: r)
    | none => rlF A m f (i + 1) j (p :: r))
theorem rlF_end (A : Nat → Nat → Bool) (m : Nat) : ∀ (f i j : Nat), rlF A m f i j [] = whB false (alF A m f i j)
  | 0, _, _ => rfl
  | f + 1, i, j => by
    rw [rlF, alF]
    cases fdF (A i) (m - j) j with
    | some x => simp only [whB, List.map_cons]; rw [rlF_end A m f (i + 1) (x + 1)]; rfl
    | none => exact rlF_end A m f (i + 1) j
theorem rlF_gap (A : Nat → Nat → Bool) (m : Nat) (p : Nat × Nat) (r : List (Nat × Nat)) : ∀ (d f i j : Nat), p.1 - i = d → i ≤ p.1 → d < f → rlF A m f i j (p :: r) = whB false (alF A p.2 d i j) ++ ((p.1 : Int), (p.2 : Int), true) :: rlF A m (f - d - 1) (p.1 + 1) (p.2 + 1) r
  | 0, f, i, j, h, hi, hf => by
    obtain ⟨g, rfl⟩ : ∃ g, f = g + 1 := ⟨f - 1, by omega⟩
    have e : p.1 = i := by omega
    rw [rlF, if_pos e, ← e]
    rfl
  | d + 1, f, i, j, h, hi, hf => by
    obtain ⟨g, rfl⟩ : ∃ g, f = g + 1 := ⟨f - 1, by omega⟩
    rw [rlF, if_neg (by omega), alF]
    cases fdF (A i) (p.2 - j) j with
    | some x =>
      simp only [whB, List.map_cons, List.cons_append]
      rw [rlF_gap A m p r d g (i + 1) (x + 1) (by omega) (by omega) (by omega), show g + 1 - (d + 1) - 1 = g - d - 1 by omega]
      rfl
    | none =>
      show rlF A m g (i + 1) j (p :: r) = whB false (alF A p.2 d (i + 1) j) ++ _
      rw [rlF_gap A m p r d g (i + 1) j (by omega) (by omega) (by omega), show g + 1 - (d + 1) - 1 = g - d - 1 by omega]
theorem mt_rl (A : Nat → Nat → Bool) (n m : Nat) : ∀ (P : List (Nat × Nat)) (i j : Nat), i ≤ n → RiseFrom (fun _ _ => true) n m i j P → mtF A n m i j P = rlF A m (n - i) i j P
  | [], i, j, _, _ => (rlF_end A m (n - i) i j).symm
  | p :: r, i, j, hi, h => by
    obtain ⟨h1, h2, h3, h4, _, h6⟩ := h
    rw [mtF, rlF_gap A m p r (p.1 - i) (n - i) i j rfl h1 (by omega), mt_rl A n m r (p.1 + 1) (p.2 + 1) h3 h6, show n - i - (p.1 - i) - 1 = n - (p.1 + 1) by omega]
end Go.Proofs.YtbabmkilbbbmoaaDoor

/-
  What 'match.appendAlike' does.
-/
namespace Go.Proofs.YtbabmkilbbbmoaaDoor
open Go.RowKit
set_option linter.unusedVariables false
set_option linter.unusedSimpArgs false

theorem whB_snoc (b : Bool) (L : List (Nat × Nat)) (i j : Nat) : whB b (L ++ [(i, j)]) = whB b L ++ [((i : Int), (j : Int), b)] := by unfold whB; rw [List.map_append]; rfl
theorem pairs_snoc {w : World} {base : Nat} {u : Value} {M : List (Int × Int × Bool)} {p : Int × Int × Bool} (h : w.ownsRow base 37 3 u (M.length + 1) (flatP M ++ pairL p)) : PairsV w base u (M ++ [p]) := by
  unfold PairsV
  rw [List.length_append, flatP_app]
  simpa [flatP] using h
/-- What holds ahead of a round of appendAlike. -/
structure AlS (W0 w : World) (base bq : Nat) (v : Value) (A : Nat → Nat → Bool) (j1 i1 : Nat) (L : List (Int × Int × Bool)) (full : List (Nat × Nat)) (gap : Array Value) (i j : Nat) (K : List (Nat × Nat)) (u : Value) (wr : World) : Prop where
  row : PairsV wr base u (L ++ whB false K)
  eq : K ++ alF A j1 (i1 - i) i j = full
  bl : Below base w wr
  fr : FrB w v u
  ne : ∀ q, u.ownBlock = some q → q ≠ w.heap.size
  kp : KpB w v wr
  gp : Blk wr w.heap.size gap 117
  sz : w.heap.size ≤ wr.heap.size
set_option maxHeartbeats 4000000 in
set_option maxRecDepth 100000 in
theorem apal_any (W0 : World) (qa qb : Option Addr) (na nb ca cb : Nat) (za zb : List Int) (ha : MtsV qa na za W0) (hb : MtsV qb nb zb W0) (v : Value) (L : List (Int × Int × Bool)) (i0 i1 j0 j1 : Nat) (w : World) (hrow : PairsV w W0.heap.size v L) (hbl : Below W0.heap.size W0 w)
    (hi : i0 ≤ i1) (hi1 : i1 ≤ na) (hj : j0 ≤ j1) (hj1 : j1 ≤ nb) (hn : na ≤ 1000 ∧ nb ≤ 1000) (hL : L.length ≤ 10000) :
    Calls Tryd.prog 61 #[v, .slice qa na ca, .slice qb nb cb, .agg #[.int .i64 (i0 : Int), .int .i64 (i1 : Int), .int .i64 (j0 : Int), .int .i64 (j1 : Int)]] w fun e w' => ∃ u, e = .returned u ∧ PairsV w' W0.heap.size u (L ++ whB false (alF (eqZ za zb) j1 (i1 - i0) i0 j0)) ∧ Below W0.heap.size w w' ∧ FrB w v u ∧ KpB w v w' := by
  obtain ⟨p0', hp0, hp1, hp2, hp3⟩ := mfoPair
  obtain ⟨uq, un, uc, hu⟩ := slice_of hrow
  subst hu
  have HA := hide ha
  have HB := hide hb
  have HBL := hide hbl
  have hz := hbl.size
  have HR0 := hide hrow
  have HOWN : Hid (∀ q, (Value.slice uq un uc).ownBlock = some q → W0.heap.size ≤ q ∧ q < w.heap.size) := hide (fun q hq => hrow.lt q hq)
  have BX := hide (Blk.new w #[.int .i64 (i0 : Int), .int .i64 (i1 : Int), .int .i64 (j0 : Int), .int .i64 (j1 : Int)] 117)
  have HBX : Hid (Below w.heap.size w (w.alloc (Obj.cells #[.int .i64 (i0 : Int), .int .i64 (i1 : Int), .int .i64 (j0 : Int), .int .i64 (j1 : Int)] 117))) := hide ((Below.refl _ _).alloc (Nat.le_refl _) _)
  have HR := hide (hrow.alloc (Obj.cells #[.int .i64 (i0 : Int), .int .i64 (i1 : Int), .int .i64 (j0 : Int), .int .i64 (j1 : Int)] 117))
  have hal := alF_len (eqZ za zb) j1 (i1 - i0) i0 j0
  clear ha hb hrow hbl
  go_enter Tryd.func61, Tryd.ntmps61
  have hbase : W0.heap.size ≤ w.heap.size := hz
  generalize hfull : alF (eqZ za zb) j1 (i1 - i0) i0 j0 = full at *
  have HFULL := hide hfull
  clear hfull
  have hW1 : Below W0.heap.size w (w.alloc (Obj.cells #[.int .i64 (i0 : Int), .int .i64 (i1 : Int), .int .i64 (j0 : Int), .int .i64 (j1 : Int)] 117)) := (Below.refl _ _).alloc hz _
  have HST : Hid (AlS W0 w W0.heap.size 0 (.slice uq un uc) (eqZ za zb) j1 i1 L full #[.int .i64 (i0 : Int), .int .i64 (i1 : Int), .int .i64 (j0 : Int), .int .i64 (j1 : Int)] i0 j0 [] (.slice uq un uc) (w.alloc (Obj.cells #[.int .i64 (i0 : Int), .int .i64 (i1 : Int), .int .i64 (j0 : Int), .int .i64 (j1 : Int)] 117))) := hide ⟨by show PairsV _ _ _ (L ++ []); rw [List.append_nil]; exact unhide HR, unhide HFULL, hW1, fun k hk => .inl hk, fun q hq => by have := (unhide HOWN q hq).2; omega, fun b hb _ => (unhide HBX).block b hb, unhide BX, by simp⟩
  clear HR hW1 BX
  go_wp2
  go_step3
  go_wp2
  go_step3
  go_wp2
  generalize w.alloc (Obj.cells #[.int .i64 (i0 : Int), .int .i64 (i1 : Int), .int .i64 (j0 : Int), .int .i64 (j1 : Int)] 117) = W1 at *
  go_loopg [10, 9, 0] (i1 - i0) (fun ga iv jv u wr => ∃ (i j : Nat) (K : List (Nat × Nat)), i + ga = i1 ∧ j0 ≤ j ∧ j ≤ j1 ∧ iv = .int .i64 (i : Int) ∧ jv = .int .i64 (j : Int) ∧ AlS W0 w W0.heap.size 0 (.slice uq un uc) (eqZ za zb) j1 i1 L full #[.int .i64 (i0 : Int), .int .i64 (i1 : Int), .int .i64 (j0 : Int), .int .i64 (j1 : Int)] i j K u wr)
  case atStart => exact ⟨i0, j0, [], by omega, Nat.le_refl _, hj, rfl, rfl, unhide HST⟩
  case round =>
    clear HST
    obtain ⟨i, j, K, hig, hj0, hjj, rfl, rfl, hS⟩ := hrel
    obtain ⟨vq, vn, vc, hu⟩ := slice_of hS.row
    subst hu
    have HS := hide hS
    have g1 := hS.gp.cell 1
    have g3 := hS.gp.cell 3
    have hKl : K.length ≤ full.length := by have := congrArg List.length hS.eq; rw [List.length_append] at this; omega
    cases gk with
    | zero =>
      have hii : i = i1 := by omega
      subst hii
      have hF : K = full := by have := hS.eq; rw [Nat.sub_self] at this; simpa [alF] using this
      subst hF
      have HO := hide hS
      have hni : ¬ (i : Int) < (i : Int) := by omega
      clear hS HS
      go_wp2
      try rw [Exit.noGoto_ret]
      go_ret
      exact ⟨_, rfl, (unhide HO).row, (unhide HO).bl, (unhide HO).fr, (unhide HO).kp⟩
    | succ ga =>
      have hlt : (i : Int) < (i1 : Int) := by omega
      have hna : i < na := by omega
      clear hS
      go_wp2
      obtain ⟨wo, hwo⟩ : ∃ wo, wo = wr := ⟨_, rfl⟩
      subst hwo
      go_loopg [11, 9, 0] (j1 - j) (fun gb xv nv uv wx => ∃ x : Nat, x + gb = j1 ∧ j ≤ x ∧ (∀ y, j ≤ y → y < x → eqZ za zb i y = false) ∧ xv = .int .i64 (x : Int) ∧ nv = .int .i64 (j : Int) ∧ uv = .slice vq vn vc ∧ Below wo.heap.size wo wx)
      case atStart => exact ⟨j, by omega, Nat.le_refl _, fun y h1 h2 => by omega, rfl, rfl, rfl, Below.refl _ _⟩
      case round =>
        obtain ⟨x, hxg, hjx, hno, rfl, rfl, rfl, hbx⟩ := hrel
        have HNO := hide hno
        have HBXX := hide hbx
        have f1 := cellB hbx g1
        have f3 := cellB hbx g3
        have hi1' : i1 - i = ga + 1 := by omega
        have hi2' : i1 - (i + 1) = ga := by omega
        cases gk with
        | zero =>
          have hxe : x = j1 := by omega
          have hlt2 : ¬ (x : Int) < (j1 : Int) := by omega
          have HS2 : Hid (AlS W0 w W0.heap.size 0 (.slice uq un uc) (eqZ za zb) j1 i1 L full #[.int .i64 (i0 : Int), .int .i64 (i1 : Int), .int .i64 (j0 : Int), .int .i64 (j1 : Int)] (i + 1) j K (.slice vq vn vc) wr) := hide (by
            have h := unhide HS
            refine ⟨ownsRow_below h.row hbx, ?_, h.bl.trans (hbx.mono (by have := h.sz; omega)), h.fr, h.ne, fun b hb hne => (hbx.block b (by have := h.sz; omega)).trans (h.kp b hb hne), h.gp.later hbx, by have := h.sz; have := hbx.size; omega⟩
            rw [hi2', ← h.eq, hi1', alF_none (fdF_none _ _ _ (fun y h1 h2 => hno y h1 (by omega)))])
          clear hno hbx hxe
          go_wp2
          go_roundg ga
          case rel => exact ⟨i + 1, j, K, by omega, hj0, hjj, by go_num, rfl, unhide HS2⟩
          case measure => omega
        | succ gb =>
          have hlt2 : (x : Int) < (j1 : Int) := by omega
          have hb0 : Below W0.heap.size W0 wr := (unhide HBL).trans ((unhide HS).bl.trans (hbx.mono (by have := (unhide HS).sz; omega)))
          obtain ⟨gA, oA, hqA, cA⟩ := (unhide HA).at hb0 i hna
          obtain ⟨gB, oB, hqB, cB⟩ := (unhide HB).at hb0 x (by omega)
          subst hqA
          subst hqB
          have hxb : (x : Int) < (nb : Int) := by omega
          have hia : (i : Int) < (na : Int) := by omega
          have hEq : Hid ((za.getD i 0 == zb.getD x 0) = eqZ za zb i x) := hide rfl
          cases hE : eqZ za zb i x with
          | false =>
            have he : (za.getD i 0 == zb.getD x 0) = false := (unhide hEq).trans hE
            have HNO2 : Hid (∀ y, j ≤ y → y < x + 1 → eqZ za zb i y = false) := hide (fun y h1 h2 => by
              by_cases e : y = x
              · rw [e]; exact hE
              · exact unhide HNO y h1 (by omega))
            generalize za.getD i 0 = xa at *
            generalize zb.getD x 0 = xb at *
            clear hno hbx hb0 hE hEq
            go_wp2
            go_quiet (fail)
            go_wp2
            go_roundg gb
            case rel => exact ⟨x + 1, by omega, by omega, unhide HNO2, by go_num, rfl, rfl, _root_.Go.below_drewN (unhide HBXX) _⟩
            case measure => omega
          | true =>
            have he : (za.getD i 0 == zb.getD x 0) = true := (unhide hEq).trans hE
            have HFD : Hid (fdF (eqZ za zb i) (j1 - j) j = some x) := hide (fdF_some _ _ _ _ hjx (by omega) (fun y h1 h2 => hno y h1 h2) hE)
            have HSz := hide (unhide HS).sz
            have HRx := hide (ownsRow_below (unhide HS).row hbx)
            have HG := hide ((unhide HS).gp.later hbx)
            have HKP := hide (unhide HS).kp
            have HNE := hide (unhide HS).ne
            have HFR := hide (unhide HS).fr
            have HBo := hide ((unhide HS).bl.trans (hbx.mono (by have := (unhide HS).sz; omega)))
            have HEQ := hide (unhide HS).eq
            have hwl : (L ++ whB false K).length ≤ 11001 := by unfold whB; rw [List.length_append, List.length_map]; omega
            have hzx := hbx.size
            have hszo := (unhide HS).sz
            generalize za.getD i 0 = xa at *
            generalize zb.getD x 0 = xb at *
            unfold PairsV at HRx
            clear hno hbx hb0 hE hEq HS
            go_wp2
            go_quiet (fail)
            have hD : Below wr.heap.size wr (wr.drewN nq) := below_draws wr nq
            generalize wr.drewN nq = wd at *
            have HRd := hide (ownsRow_below (unhide HRx) hD)
            have hzd := hD.size
            go_wp2_with (at_builtin; refine wpList_append_fresh _ rfl _ _ 26 rfl W0.heap.size 37 p0' (.agg #[.int .i64 0, .int .i64 0, .bool false]) 3 24 Tryd.underlying26 hp0 hp1 hp2 hp3 rfl (by decide) (.slice vq vn vc) _ _ rfl ((unhide HRd).alloc _) ⟨wd.heap.size, 0, none⟩ 1 1 [.int .i64 (i : Int), .int .i64 (x : Int), .bool false] rfl rfl (cell_three_new _ _ _ _ _) (by simp [Value.oneCell']) (by simp only [maxLen]; omega) (by omega) (by simp; omega) ?_)
            intro u9 w9 hown hgr hfr
            have HB9 : Hid (Below wr.heap.size wr (wd.alloc (Obj.cells #[.int .i64 (i : Int), .int .i64 (x : Int), .bool false] 37))) := hide (hD.alloc hzd _)
            have HS2 : Hid (AlS W0 w W0.heap.size 0 (.slice uq un uc) (eqZ za zb) j1 i1 L full #[.int .i64 (i0 : Int), .int .i64 (i1 : Int), .int .i64 (j0 : Int), .int .i64 (j1 : Int)] (i + 1) (x + 1) (K ++ [(i, x)]) u9 w9) := hide (by
              have hne := unhide HNE
              refine ⟨?_, ?_, ?_, ?_, ?_, ?_, ?_, ?_⟩
              · rw [whB_snoc, ← List.append_assoc]
                exact pairs_snoc (by rw [List.length_append]; exact hown)
              · rw [hi2', List.append_assoc, ← unhide HEQ, hi1', alF_some (unhide HFD)]
                rfl
              · exact ((unhide HBo).trans ((unhide HB9).mono (by omega))).grown hgr (by simp; omega) (fun q hq => ((unhide HRd).lt q hq).1)
              · intro k hk
                rcases hfr k hk with h | h
                · exact unhide HFR k h
                · exact .inr (by have h2 : wd.heap.size ≤ k := by first | exact h | exact Nat.le_trans (by simp) h
                                 omega)
              · intro q hq
                rcases hfr q hq with h | h
                · exact hne q h
                · have h2 : wd.heap.size ≤ q := by first | exact h | exact Nat.le_trans (by simp) h
                  omega
              · intro b hb hne2
                have h1 := (unhide HB9).block b (by omega)
                have h0 := (unhide HBXX).block b (by omega)
                refine (hgr.block b (by simp; omega) (fun e => ?_)).trans (h1.trans (h0.trans (unhide HKP b hb hne2)))
                rcases unhide HFR b e.symm with h | h
                · exact hne2 h.symm
                · omega
              · exact ((unhide HG).later (unhide HB9)).grown hgr (fun e => hne _ e.symm rfl)
              · have := hgr.size; simp at this; omega)
            obtain ⟨yq, yn, yc, hy⟩ := slice_of (unhide HS2).row
            subst hy
            clear hown hgr hfr HB9 hD
            go_wp2
            go_roundg ga
            case rel => exact ⟨i + 1, x + 1, K ++ [(i, x)], by omega, by omega, by omega, by go_num, by go_num, unhide HS2⟩
            case measure => omega
end Go.Proofs.YtbabmkilbbbmoaaDoor
