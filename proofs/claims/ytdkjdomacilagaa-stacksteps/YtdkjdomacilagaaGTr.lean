/-
  What the reference's In does, and its lists.
-/
import Derived.Test.YtdkjdomacilagaaGTp
import Derived.Test.YtdkjdomacilagaaVw
namespace Go.Proofs.Ytdkjdomacilagaa
open Go.RowKit
set_option linter.unusedVariables false

def Ls (ns : List (List UInt8)) : List ByteArray := ns.map bs
theorem ls_len (ns : List (List UInt8)) : (Ls ns).length = ns.length := List.length_map _
theorem ls_get (ns : List (List UInt8)) (i : Nat) (h : i < ns.length) : ((Ls ns).getD i ByteArray.empty).toList = ns.getD i [] := by
  rw [Lib.toList_data, Ls, List.getD, List.getElem?_map, List.getElem?_eq_getElem h, List.getD, List.getElem?_eq_getElem h]
  exact bs_toList _

/-- A literal of texts, in new memory. -/
theorem view_lit (w : World) (ns : List (List UInt8)) (t : TypeId) (hn : ns.length ≤ 1000) (n : Nat) (h : n = ns.length) :
    View (w.alloc (Obj.cells (ns.map (fun l => Value.string (bs l))).toArray t)) (.slice (some ⟨w.heap.size, 0, none⟩) n n) (Ls ns) := by
  subst h
  refine ⟨by rw [ls_len]; omega, some ⟨w.heap.size, 0, none⟩, ns.length, by rw [ls_len], fun _ => ⟨w.heap.size, 0, rfl, fun i hi => ?_⟩⟩
  rw [ls_len] at hi
  rw [World.cell?_alloc_mark]
  simp [Ls, List.getD, List.getElem?_eq_getElem hi]

set_option maxHeartbeats 400000 in
theorem in_loop (s : ByteArray) (x xo ca : Nat) (ns : List (List UInt8)) (la : Nat) (w : World) (hla : Hid (ns.length = la)) (h0 : 0 < la) (ha : la ≤ 9223372036854775807)
    (hx : ∀ i, i < la → w.cell? ⟨x, xo + i, none⟩ = some (.string ((Ls ns).getD i ByteArray.empty))) :
    Calls Try.prog 103 #[.string s, .slice (some ⟨x, xo, none⟩) la ca] w fun e w' => e = .returned (.bool (inB s.toList ns)) ∧ Below w.heap.size w w' := by
  have HX := hide hx
  clear hx
  go_enter Try.func103, Try.ntmps103
  go_wp2
  go_loopw [9] (fun i wr => ∃ k : Nat, k ≤ la ∧ i = .int .i64 k ∧ Below w.heap.size w wr ∧ inB s.toList ns = inB s.toList (ns.drop k)) (fun i _ => la - (intOf i).toNat)
  case atStart => exact ⟨0, Nat.zero_le _, rfl, Below.refl _ _, rfl⟩
  case round =>
    obtain ⟨k, hk, rfl, hbw, hr⟩ := hrel
    have HR := hide hr
    clear hr
    by_cases hlt : k < la
    · have hlti : (k : Int) < (la : Int) := by omega
      obtain ⟨p, hp⟩ : ∃ p, p = (Ls ns).getD k ByteArray.empty := ⟨_, rfl⟩
      have c0 := unhide HX k hlt
      have c1 : wr.cell? ⟨x, xo + k, none⟩ = some (.string p) := by
        rw [hp]
        exact (hbw.cell (p := ⟨x, xo + k, none⟩) (World.block_lt_of_cell? w ⟨x, xo + k, none⟩ c0)).trans c0
      have hlt' : k < ns.length := by rw [unhide hla]; exact hlt
      have hpl : p.toList = ns.getD k [] := by rw [hp]; exact ls_get ns k hlt'
      have hst : inB s.toList (ns.drop k) = ((s.toList == p.toList) || inB s.toList (ns.drop (k + 1))) := by
        rw [List.drop_eq_getElem_cons hlt', inB, List.any_cons, hpl, List.getD, List.getElem?_eq_getElem hlt']; rfl
      have HST := hide hst
      clear c0 hp hpl hst
      by_cases hpq : p = s
      · have hpq' := beq_yes hpq
        have hv : inB s.toList ns = true := by rw [unhide HR, unhide HST, hpq]; simp
        have HV := hide hv
        clear hpq hv
        go_wp2
        go_ret
        exact ⟨by rw [unhide HV]; rfl, hbw⟩
      · have hpq' := beq_no hpq
        have hv : inB s.toList ns = inB s.toList (ns.drop (k + 1)) := by rw [unhide HR, unhide HST, beq_no (fun e => hpq e.symm), Bool.false_or]
        have HV := hide hv
        clear hpq hv
        go_wp2
        go_roundw
        case rel => exact ⟨k + 1, by omega, by go_num, hbw, unhide HV⟩
        case measure => simp [intOf]; omega
    · have hs : inB s.toList ns = false := by
        rw [unhide HR, List.drop_eq_nil_of_le (by rw [unhide hla]; omega)]; rfl
      have HS := hide hs
      clear hs
      go_wp2
      go_ret
      exact ⟨by rw [unhide HS]; rfl, hbw⟩

theorem in_none (s : ByteArray) (a : Option Addr) (ca : Nat) (w : World) :
    Calls Try.prog 103 #[.string s, .slice a 0 ca] w fun e w' => e = .returned (.bool false) ∧ Below w.heap.size w w' := by
  go_enter Try.func103, Try.ntmps103
  go_wp2
  refine wp_loop_rounds 1 ?_
  rw [rounds_succ]; go_wp2
  go_ret
  exact ⟨rfl, Below.refl _ _⟩

theorem in_any (s : ByteArray) (v : Value) (ns : List (List UInt8)) (w : World) (hv : View w v (Ls ns)) :
    Calls Try.prog 103 #[.string s, v] w fun e w' => e = .returned (.bool (inB s.toList ns)) ∧ Below w.heap.size w w' := by
  obtain ⟨la, a, ca, rfl, ha⟩ := hv
  rw [ls_len] at la ha ⊢
  by_cases h0 : ns.length = 0
  · have e0 : ns = [] := List.eq_nil_of_length_eq_zero h0
    subst e0
    exact in_none s a ca w
  · obtain ⟨x, xo, rfl, hx⟩ := ha (by omega)
    exact in_loop s x xo ca ns _ w (hide rfl) (by omega) la hx
end Go.Proofs.Ytdkjdomacilagaa
