/-
  What slices.Contains does of texts; what stack.named and stack.ends do.
-/
import Derived.Test.YtdkjdomacilagaaKPl
import Derived.Test.YtdkjdomacilagaaGTh
namespace Go.Proofs.Ytdkjdomacilagaa
open Go.RowKit
set_option linter.unusedVariables false

def idxN (s : ByteArray) (ns : List (List UInt8)) : Int := match ns.findIdx? (fun n => s.toList == n) with | some k => k | none => -1
theorem idxN_inB (s : ByteArray) (ns : List (List UInt8)) : decide (0 ≤ idxN s ns) = inB s.toList ns := by
  unfold idxN inB
  cases h : ns.findIdx? (fun n => s.toList == n) with
  | none =>
    rw [List.findIdx?_eq_none_iff] at h
    rw [List.any_eq_false.2 (fun x hx => by rw [h x hx]; simp)]
    rfl
  | some k =>
    rw [List.findIdx?_eq_some_iff_getElem] at h
    obtain ⟨hk, hp, _⟩ := h
    rw [List.any_eq_true.2 ⟨ns[k], List.getElem_mem hk, hp⟩]
    exact decide_eq_true (Int.natCast_nonneg k)
theorem idxN_hit {s : ByteArray} {ns : List (List UInt8)} {k : Nat} (hk : k < ns.length) (h : s.toList = ns.getD k []) (ha : ∀ j, j < k → ¬ s.toList = ns.getD j []) : idxN s ns = k := by
  have : ns.findIdx? (fun n => s.toList == n) = some k := by
    rw [List.findIdx?_eq_some_iff_getElem]
    refine ⟨hk, ?_, fun j hj => ?_⟩
    · rw [h, List.getD, List.getElem?_eq_getElem hk]; simp
    · have := ha j hj
      rw [List.getD, List.getElem?_eq_getElem (by omega)] at this
      simpa using this
  unfold idxN; rw [this]
theorem idxN_miss {s : ByteArray} {ns : List (List UInt8)} (ha : ∀ j, j < ns.length → ¬ s.toList = ns.getD j []) : idxN s ns = -1 := by
  have : ns.findIdx? (fun n => s.toList == n) = none := by
    rw [List.findIdx?_eq_none_iff]
    intro x hx
    obtain ⟨j, hj, rfl⟩ := List.mem_iff_getElem.1 hx
    have := ha j hj
    rw [List.getD, List.getElem?_eq_getElem hj] at this
    simpa using this
  unfold idxN; rw [this]

set_option maxHeartbeats 400000 in
theorem index_loop (s : ByteArray) (x xo ca : Nat) (ns : List (List UInt8)) (la : Nat) (w : World) (hla : Hid (ns.length = la)) (h0 : 0 < la) (ha : la ≤ 9223372036854775807)
    (hx : ∀ i, i < la → w.cell? ⟨x, xo + i, none⟩ = some (.string ((Ls ns).getD i ByteArray.empty))) :
    Calls Try.prog 104 #[.slice (some ⟨x, xo, none⟩) la ca, .string s] w fun e w' => e = .returned (.int .i64 (idxN s ns)) ∧ w' = w := by
  have HX := hide hx
  clear hx
  go_enter Try.func104, Try.ntmps104
  go_wp2
  go_loopw [8] (fun i wr => ∃ k : Nat, k ≤ la ∧ i = .int .i64 k ∧ wr = w ∧ (∀ j, j < k → ¬ s.toList = ns.getD j [])) (fun i _ => la - (intOf i).toNat)
  case atStart => exact ⟨0, Nat.zero_le _, rfl, rfl, fun j h => by omega⟩
  case round =>
    obtain ⟨k, hk, rfl, hw, hr⟩ := hrel
    obtain rfl : wr = w := hw
    have HR := hide hr
    clear hr
    by_cases hlt : k < la
    · have hlti : (k : Int) < (la : Int) := by omega
      have c1 := unhide HX k hlt
      have hg := ls_get ns k (by rw [unhide hla]; exact hlt)
      generalize (Ls ns).getD k ByteArray.empty = p at *
      by_cases hs : s = p
      · have HE := hide (idxN_hit (s := s) (by rw [unhide hla]; exact hlt) (by rw [hs]; exact hg) (unhide HR))
        have f1 := beq_yes hs
        clear hs hg
        go_wp2
        go_ret
        exact ⟨by rw [unhide HE]; rfl, rfl⟩
      · have HE : Hid (¬ s.toList = ns.getD k []) := hide (by rw [← hg]; intro e; exact hs (toList_eq.1 e))
        have f1 := beq_no hs
        clear hs hg
        go_wp2
        go_roundw
        case rel =>
          refine ⟨k + 1, by omega, by go_num, by simp, fun j hj => ?_⟩
          by_cases hjk : j = k
          · subst hjk; exact unhide HE
          · exact unhide HR j (by omega)
        case measure => simp [intOf]; omega
    · have hlti : ¬ (k : Int) < (la : Int) := by omega
      have HE := hide (idxN_miss (s := s) (ns := ns) (fun j hj => unhide HR j (by rw [unhide hla] at hj; omega)))
      clear hlt
      go_wp2
      go_ret
      exact ⟨by rw [unhide HE]; rfl, rfl⟩
theorem index_any (s : ByteArray) (v : Value) (ns : List (List UInt8)) (w : World) (hv : View w v (Ls ns)) :
    Calls Try.prog 104 #[v, .string s] w fun e w' => e = .returned (.int .i64 (idxN s ns)) ∧ w' = w := by
  obtain ⟨la, a, cap, rfl, hx⟩ := hv
  rw [ls_len] at *
  by_cases h0 : ns.length = 0
  · obtain rfl : ns = [] := List.eq_nil_of_length_eq_zero h0
    have : idxN s [] = -1 := rfl
    rw [this]
    clear hx h0
    show Calls _ _ #[.slice a 0 cap, .string s] w _
    go_enter Try.func104, Try.ntmps104
    go_wp2
    refine wp_loop_rounds 1 ?_
    rw [rounds_succ]; go_wp2
    go_ret
    exact ⟨rfl, rfl⟩
  · obtain ⟨b, off, rfl, hc⟩ := hx (by omega)
    exact index_loop s b off cap ns ns.length w (hide rfl) (by omega) la hc
theorem contains_any (s : ByteArray) (v : Value) (ns : List (List UInt8)) (w : World) (hv : View w v (Ls ns)) :
    Calls Try.prog 87 #[v, .string s] w fun e w' => e = .returned (.bool (inB s.toList ns)) ∧ w' = w := by
  have C := hide (index_any s v ns w hv)
  rw [← idxN_inB]
  generalize idxN s ns = k at *
  obtain ⟨_, a, cap, rfl, _⟩ := hv
  go_enter Try.func87, Try.ntmps87
  go_wp2_with fail
  refine (unhide C).mono ?_
  rintro e w1 ⟨rfl, rfl⟩
  go_wp2
  go_ret
  exact ⟨rfl, rfl⟩

set_option maxHeartbeats 1000000 in
theorem named_any (e : Ent) (v : Value) (ns : List (List UInt8)) (w : World) (hv : View w v (Ls ns)) :
    Calls Try.prog 52 #[entV e, v] w fun r w' => r = .returned (.bool (nmdB e ns)) ∧ Below w.heap.size w w' := by
  obtain ⟨id, sp, nm⟩ := e
  have C := hide (contains_any nm v ns (w.alloc (Obj.cells #[.int .i64 id, .int .i64 sp, .string nm] 32)) (view_alloc hv _))
  unfold nmdB entV
  dsimp only
  generalize inB nm.toList ns = b at *
  obtain ⟨_, a, cap, rfl, _⟩ := hv
  by_cases h0 : sp = 0
  · subst h0
    go_enter Try.func52, Try.ntmps52
    go_wp2_with fail
    refine (unhide C).mono ?_
    rintro r w1 ⟨rfl, rfl⟩
    go_wp2
    go_ret
    exact ⟨rfl, (Below.refl _ _).alloc (Nat.le_refl _) _⟩
  · have h1 : (sp == 0) = false := beq_eq_false_iff_ne.2 h0
    rw [h1, Bool.false_and]
    go_enter Try.func52, Try.ntmps52
    go_wp2
    go_ret
    exact ⟨rfl, (Below.refl _ _).alloc (Nat.le_refl _) _⟩

theorem view_litk (w : World) (ns : List (List UInt8)) (t : TypeId) (hn : ns.length ≤ 1000) (n : Nat) (h : n = ns.length) (k : Nat) (hk : k = w.heap.size) (cs : Array Value) (hcs : cs = (ns.map (fun l => Value.string (bs l))).toArray) :
    View (w.alloc (Obj.cells cs t)) (.slice (some ⟨k, 0, none⟩) n n) (Ls ns) := by
  subst hk hcs
  exact view_lit w ns t hn n h

set_option maxHeartbeats 1000000 in
theorem ends_e (scope : Int) (e : Ent) (w : World) :
    Calls Try.prog 53 #[.int .i64 scope, entV e] w fun r w' => r = .returned (.bool (endsE scope e)) ∧ Below w.heap.size w w' := by
  have C := hide (fun v ns w hv => named_any e v ns w hv)
  have D := hide (fun w => ends_any e.sp e.nm w)
  unfold endsE
  obtain ⟨id, sp, nm⟩ := e
  dsimp only at *
  unfold entV at *
  dsimp only at *
  generalize endB sp nm.toList = b at *
  by_cases h2 : scope = 2
  · subst h2
    rw [if_pos rfl]
    generalize hq : nmdB ⟨id, sp, nm⟩ htNs = q at *
    go_enter Try.func53, Try.ntmps53
    go_wp2_with fail
    refine (unhide C _ htNs _ (view_litk (w.alloc (Obj.cells #[.int .i64 id, .int .i64 sp, .string nm] 32)) htNs _ (by decide) _ rfl _ (by simp) _ rfl)).mono ?_
    rintro r w1 ⟨rfl, hb⟩
    rw [hq]
    go_wp2
    go_ret
    exact ⟨rfl, bel_of (bel_of hb)⟩
  · rw [if_neg h2]
    have e2 : (scope == 2) = false := beq_eq_false_iff_ne.2 h2
    by_cases h1 : scope = 1
    · subst h1
      generalize hq : nmdB ⟨id, sp, nm⟩ ouNs = q at *
      cases q with
      | true =>
        go_enter Try.func53, Try.ntmps53
        go_wp2_with fail
        refine (unhide C _ ouNs _ (view_litk (w.alloc (Obj.cells #[.int .i64 id, .int .i64 sp, .string nm] 32)) ouNs _ (by decide) _ rfl _ (by simp) _ rfl)).mono ?_
        rintro r w1 ⟨rfl, hb⟩
        rw [hq]
        go_wp2
        go_ret
        exact ⟨rfl, bel_of (bel_of hb)⟩
      | false =>
        go_enter Try.func53, Try.ntmps53
        go_wp2_with fail
        refine (unhide C _ ouNs _ (view_litk (w.alloc (Obj.cells #[.int .i64 id, .int .i64 sp, .string nm] 32)) ouNs _ (by decide) _ rfl _ (by simp) _ rfl)).mono ?_
        rintro r w1 ⟨rfl, hb⟩
        rw [hq]
        have kB : Blk w1 w.heap.size #[.int .i64 id, .int .i64 sp, .string nm] 32 := ((Blk.new w _ _).alloc _).later hb
        have d1 : w1.cell? ⟨w.heap.size, 1, none⟩ = some (.int .i64 sp) := kB.cell 1
        have d2 : w1.cell? ⟨w.heap.size, 2, none⟩ = some (.string nm) := kB.cell 2
        go_wp2_with fail
        refine (unhide D _).mono ?_
        rintro r w2 ⟨rfl, rfl⟩
        go_wp2
        go_ret
        exact ⟨rfl, bel_of (bel_of hb)⟩
    · have e1 : (scope == 1) = false := beq_eq_false_iff_ne.2 h1
      rw [e1, Bool.false_and, Bool.false_or]
      go_enter Try.func53, Try.ntmps53
      go_wp2_with fail
      refine (unhide D _).mono ?_
      rintro r w1 ⟨rfl, rfl⟩
      go_wp2
      go_ret
      exact ⟨rfl, (Below.refl _ _).alloc (Nat.le_refl _) _⟩
end Go.Proofs.Ytdkjdomacilagaa
