/-
  What a list's Cut does, of any numbers.
-/
import Derived.Test.YtabajhbghjfhoaaALl
namespace Go.Proofs.Ytabajhbghjfhoaa
open Go.RowKit
set_option linter.unusedVariables false
set_option linter.unusedSimpArgs false

/-- A slice of numbers as it lies in memory. -/
def IntsV (q : Option Addr) (n : Nat) (zs : List Int) (w : World) : Prop :=
  n = zs.length ∧ n ≤ 1000 ∧ (n = 0 ∨ ∃ g o, q = some ⟨g, o, none⟩ ∧ ∀ j, j < zs.length → w.cell? ⟨g, o + j, none⟩ = some (.int .i64 (zs.getD j 0)))
theorem IntsV.below {q : Option Addr} {n : Nat} {zs : List Int} {w w' : World} (h : IntsV q n zs w) (hb : Below w.heap.size w w') : IntsV q n zs w' := by
  obtain ⟨h1, h2, h3⟩ := h
  refine ⟨h1, h2, ?_⟩
  rcases h3 with h | ⟨g, o, h4, h5⟩
  · exact Or.inl h
  · exact Or.inr ⟨g, o, h4, fun j hj => cell_later hb (h5 j hj)⟩
/-- Is a number among the first ones? -/
def hasK (zs : List Int) (z : Int) : Nat → Bool
  | 0 => false
  | k + 1 => hasK zs z k || (z == zs.getD k 0)
def hasZ (zs : List Int) (z : Int) : Bool := hasK zs z zs.length
theorem hasK_yes (zs : List Int) (z : Int) (k : Nat) (h : (z == zs.getD k 0) = true) : ∀ m, k < m → hasK zs z m = true
  | 0, hk => by omega
  | m + 1, hk => by
    unfold hasK
    by_cases he : k = m
    · subst he; rw [h, Bool.or_true]
    · rw [hasK_yes zs z k h m (by omega), Bool.true_or]
def IdxSaid (b : Bool) (w : World) (e : Ending) (w' : World) : Prop := ∃ i : Int, e = .returned (.int .i64 i) ∧ decide (0 ≤ i) = b ∧ w' = w
set_option maxHeartbeats 1000000 in
theorem index_pos (g o n cap : Nat) (zs : List Int) (z : Int) (w : World) (hn : Hid (zs.length = n)) (h0 : 0 < n) (hl : n ≤ 1000) (hc : ∀ j, j < zs.length → w.cell? ⟨g, o + j, none⟩ = some (.int .i64 (zs.getD j 0))) :
    Calls Try.prog 96 #[.slice (some ⟨g, o, none⟩) n cap, .int .i64 z] w (IdxSaid (hasK zs z n) w) := by
  have HC := hide hc
  clear hc
  unfold IdxSaid
  go_enter Try.func96, Try.ntmps96
  go_wp2
  go_loopw [8] (fun i wr => ∃ k : Nat, k ≤ n ∧ i = .int .i64 k ∧ hasK zs z k = false ∧ wr = w) (fun i _ => n - (intOf i).toNat)
  case atStart => exact ⟨0, Nat.zero_le _, rfl, rfl, rfl⟩
  case round =>
    obtain ⟨k, hk, rfl, hno, hw⟩ := hrel
    obtain rfl : w = wr := hw.symm
    clear hw
    by_cases hlt : k < n
    · have hlti : (k : Int) < (n : Int) := by omega
      have c1 := unhide HC k (by rw [unhide hn]; exact hlt)
      have HS : Hid (hasK zs z (k + 1) = (hasK zs z k || (z == zs.getD k 0))) := hide rfl
      have HY := hide (hasK_yes zs z k)
      have HNO := hide hno
      clear hno
      generalize zs.getD k 0 = y at *
      cases hq : (z == y) with
      | true =>
        have HF := hide (unhide HY hq n hlt)
        have hk0 : Hid (decide ((0 : Int) ≤ (k : Int)) = true) := hide (by simp)
        go_wp2
        go_ret
        exact ⟨_, rfl, by rw [unhide HF]; exact unhide hk0, rfl⟩
      | false =>
        go_wp2
        go_roundw
        case rel => exact ⟨k + 1, by omega, by go_num, by rw [unhide HS, unhide HNO, hq]; rfl, by simp⟩
        case measure => simp [intOf]; omega
    · have hlti : ¬ (k : Int) < (n : Int) := by omega
      have hke : k = n := by omega
      have HF : Hid (hasK zs z n = false) := hide (by rw [← hke]; exact hno)
      clear hno hke hlt
      go_wp2
      go_ret
      exact ⟨_, rfl, by rw [unhide HF]; rfl, rfl⟩
theorem index_zero (q : Option Addr) (cap : Nat) (z : Int) (w : World) : Calls Try.prog 96 #[.slice q 0 cap, .int .i64 z] w (IdxSaid false w) := by
  unfold IdxSaid
  go_enter Try.func96, Try.ntmps96
  go_wp2
  refine wp_loop_rounds 1 ?_
  rw [rounds_succ]; go_wp2
  go_ret
  exact ⟨_, rfl, rfl, rfl⟩
theorem contains_any (q : Option Addr) (n cap : Nat) (zs : List Int) (z : Int) (w : World) (h : IntsV q n zs w) :
    Calls Try.prog 73 #[.slice q n cap, .int .i64 z] w fun e w' => e = .returned (.bool (hasZ zs z)) ∧ w' = w := by
  have C : Hid (Calls Try.prog 96 #[.slice q n cap, .int .i64 z] w (IdxSaid (hasZ zs z) w)) := hide (by
    obtain ⟨h1, h2, h3⟩ := h
    unfold hasZ
    rw [← h1]
    by_cases h0 : n = 0
    · subst h0; exact index_zero q cap z w
    · rcases h3 with h | ⟨g, o, rfl, h5⟩
      · exact absurd h h0
      · exact index_pos g o n cap zs z w (hide h1.symm) (by omega) h2 h5)
  generalize hasZ zs z = b at *
  clear h
  go_enter Try.func73, Try.ntmps73
  go_wp2_with fail
  refine (unhide C).mono ?_
  rintro e w1 ⟨i, rfl, hi, hw⟩
  obtain rfl : w = w1 := hw.symm
  have HI := hide hi
  clear hi hw
  go_wp2
  go_ret
  exact ⟨by rw [← unhide HI]; rfl, rfl⟩
def cutZ (zs : List Int) (x : AEnt) : Bool := x.mr || hasZ zs x.id
theorem cutZ_any (x : AEnt) (k : Nat) (q : Option Addr) (n cap : Nat) (zs : List Int) (w : World) (hc : Blk w k #[.slice q n cap] 49) (hk : IntsV q n zs w) : Calls Try.prog 72 #[entV x, ptr k] w fun r w' => r = .returned (.bool (cutZ zs x)) ∧ Below w.heap.size w w' := by
  obtain ⟨xm, xi, xn, xq, xl, xc⟩ := x
  have c0 : (w.alloc (Obj.cells #[.bool xm, .int .i64 xi, .string xn, .slice xq xl xc] 58)).cell? ⟨k, 0, none⟩ = some (.slice q n cap) := (hc.alloc _).cell 0
  have C := hide (contains_any q n cap zs xi (w.alloc (Obj.cells #[.bool xm, .int .i64 xi, .string xn, .slice xq xl xc] 58)) (hk.below ((Below.refl _ _).alloc (Nat.le_refl _) _)))
  clear hc hk
  unfold entV ptr cutZ
  dsimp only
  cases xm with
  | true =>
    go_enter Try.func72, Try.ntmps72
    go_wp2
    go_ret
    exact ⟨rfl, (Below.refl _ _).alloc (Nat.le_refl _) _⟩
  | false =>
    generalize hasZ zs xi = b at *
    go_enter Try.func72, Try.ntmps72
    go_wp2_with fail
    refine (unhide C).mono ?_
    rintro r w1 ⟨rfl, rfl⟩
    go_wp2
    go_ret
    exact ⟨by simp, (Below.refl _ _).alloc (Nat.le_refl _) _⟩
/-- The numbers from f on, m of them. -/
def upFrom (f : Nat) : Nat → List Value
  | 0 => []
  | m + 1 => upFrom f m ++ [.int .i64 ((f + m : Nat) : Int)]
theorem upFrom_len (f m : Nat) : (upFrom f m).length = m := by
  induction m with
  | zero => rfl
  | succ m ih => simp [upFrom, ih]
theorem upFrom_at (f : Nat) : ∀ (m k : Nat), k < m → (upFrom f m)[k]? = some (.int .i64 ((f + k : Nat) : Int))
  | 0, k, h => by omega
  | m + 1, k, h => by
    unfold upFrom
    by_cases he : k = m
    · subst he
      rw [List.getElem?_append_right (by rw [upFrom_len]; exact Nat.le_refl _), upFrom_len, Nat.sub_self]; rfl
    · rw [List.getElem?_append_left (by rw [upFrom_len]; omega), upFrom_at f m k (by omega)]
def CutSaid (f m : Nat) (w : World) (e : Ending) (w' : World) : Prop := ∃ u, e = .returned u ∧ w'.ownsRow w.heap.size 3 1 u m (upFrom f m) ∧ Below w.heap.size w w'
set_option maxHeartbeats 4000000 in
set_option maxRecDepth 100000 in
theorem cut_z (base p : Nat) (v : Value) (q : Option Addr) (n cap : Nat) (zs : List Int) (f m : Nat) (L : List AEnt) (w : World) (h : Stk base p v L w) (hk : IntsV q n zs w) (hat : lastE (cutZ zs) L = (f : Int) - 1) (hfm : f + m = L.length) (hN : L.length ≤ 1000) :
    Calls Try.prog 30 #[ptr p, .slice q n cap] w (CutSaid f m w) := by
  obtain ⟨i0, hi0, hi1, hi2, hi3⟩ := infoI
  have b1 : Below w.heap.size w (w.alloc (Obj.cells #[.slice q n cap] 49)) := (Below.refl _ _).alloc (Nat.le_refl _) _
  have C := hide (last_cut base p v w.heap.size (cutZ zs) L (w.alloc (Obj.cells #[.slice q n cap] 49)) (h.later b1) (hide fun x W hW => cutZ_any x w.heap.size q n cap zs W ((Blk.new w _ _).later hW) ((hk.below b1).below hW)))
  rw [hat] at C
  have CE := hide (fun W (hW : Stk base p v L W) => entries_at p v W hW.1 (by obtain ⟨q, cap, e, _⟩ := h.slice; exact ⟨_, _, _, e⟩))
  have H := hide h
  have HB := hide b1
  obtain ⟨q', cap', hv, hc, hm, hg⟩ := h.slice
  subst hv
  clear h b1 hat hk hg
  unfold ptr CutSaid at *
  generalize L.length = t at *
  have hw1 : IntKind.i64.wrap ((t : Int) - 1) = (t : Int) - 1 := by rw [IntKind.wrap_i64]; omega
  have hw2 : IntKind.i64.wrap ((t : Int) - 1 - ((f : Int) - 1)) = (m : Int) := by rw [IntKind.wrap_i64]; omega
  have hw3 : IntKind.i64.wrap ((f : Int) - 1 + 1) = (f : Int) := by rw [IntKind.wrap_i64]; omega
  have hw4 : (t : Int) - 1 - ((f : Int) - 1) = (m : Int) := by omega
  have hw5 : (f : Int) - 1 + 1 = (f : Int) := by omega
  go_enter Try.func30, Try.ntmps30
  go_wp2_with fail
  refine (unhide C).mono ?_
  rintro e w1 ⟨rfl, hb⟩
  have B1 := hide (cellC (unhide HB) hb)
  clear hb
  go_wp2_with fail
  refine (unhide CE _ ((unhide H).later (unhide B1))).mono ?_
  rintro e w2 ⟨rfl, hw⟩
  obtain rfl : w1 = w2 := hw.symm
  clear hw
  have hz1 := (unhide B1).size
  go_wp2
  try rw [hw2]
  go_loopw [6, 17] (fun u i wr => ∃ k : Nat, k ≤ m ∧ i = .int .i64 k ∧ wr.ownsRow w.heap.size 3 1 u k (upFrom f k) ∧ Below w.heap.size w wr) (fun _ i _ => m - (intOf i).toNat)
  case atStart => exact ⟨0, Nat.zero_le _, rfl, World.ownsRow_nil _ _ _ _, unhide B1⟩
  case round =>
    obtain ⟨k, hk, rfl, hrow, hbw⟩ := hrel
    have HR := hide hrow
    have HBW := hide hbw
    have hsz := hbw.size
    obtain ⟨qu, nu, cu, rfl⟩ := slice_of hrow
    by_cases hlt : k < m
    · have hlti : (k : Int) < (m : Int) := by omega
      have hfk : (f : Int) + (k : Int) ≤ 2000 := by omega
      have hfk0 : (0 : Int) ≤ (f : Int) + (k : Int) := by omega
      have hwk : IntKind.i64.wrap ((f : Int) + (k : Int)) = (f : Int) + (k : Int) := by rw [IntKind.wrap_i64]; omega
      clear hrow hbw
      go_wp2_with (at_builtin; refine wpList_append_own_at _ rfl _ _ 49 rfl w.heap.size 3 i0 (.int .i64 0) 1 8 Try.underlying49 hi0 hi1 hi2 hi3 rfl (by decide) _ _ _ rfl ((unhide HR).alloc _) ⟨wr.heap.size, 0, none⟩ 1 1 [.int .i64 ((f : Int) + (k : Int))] rfl rfl ?c1 ?c2 ?c3 ?c4 ?c5 ?_)
      case c1 => exact cell_one_new _ _ _
      case c2 => simp [Value.oneCell']
      case c3 => simp only [maxLen]; omega
      case c4 => omega
      case c5 => simp; omega
      intro u' w3 hown hgr _ hat
      obtain ⟨q3, n3, c3, rfl⟩ := slice_of hown
      have HOW := hide hown
      have B3 := hide (((unhide HBW).alloc (unhide HBW).size _).grown hgr (by simp; omega) (fun j hj => ((unhide HR).lt j hj).1))
      clear hown hgr hat
      go_wp2
      go_roundw
      case rel => exact ⟨k + 1, by omega, by go_num, by (have := unhide HOW; unfold upFrom; rw [show (((f + k : Nat)) : Int) = (f : Int) + (k : Int) by omega]; exact this), unhide B3⟩
      case measure => simp [intOf]; omega
    · have hkm : k = m := by omega
      subst hkm
      have hlti : ¬ (k : Int) < (k : Int) := by omega
      clear hrow hbw hlt
      go_wp2
      go_ret
      exact ⟨_, rfl, unhide HR, unhide HBW⟩
/-- Cut. -/
def fromP (zs : List Int) (P : List PEnt) : Nat := (lastP (fun x => x.mr || hasZ zs x.id) P + 1).toNat
theorem fromP_le (zs : List Int) (P : List PEnt) : fromP zs P ≤ P.length := by
  have := lastP_lt (fun x => x.mr || hasZ zs x.id) P
  unfold fromP; omega
theorem cut_p (base p : Nat) (v : Value) (q : Option Addr) (n cap : Nat) (zs : List Int) (P : List PEnt) (w : World) (h : LstP base p v P w) (hk : IntsV q n zs w) (hN : P.length ≤ 1000) :
    Calls Try.prog 30 #[ptr p, .slice q n cap] w (CutSaid (fromP zs P) (P.length - fromP zs P) w) := by
  obtain ⟨L, hs, hr⟩ := h
  have hl := hr.len
  have hlast : lastE (cutZ zs) L = lastP (fun x => x.mr || hasZ zs x.id) P := last_rel (fun a b hab => by unfold cutZ; rw [hab.1, hab.2.1]) hr
  have hlt := lastP_lt (fun x => x.mr || hasZ zs x.id) P
  have hle := fromP_le zs P
  refine cut_z base p v q n cap zs _ _ L w hs hk ?_ (by omega) (by omega)
  rw [hlast]
  unfold fromP
  omega
end Go.Proofs.Ytabajhbghjfhoaa
