/-
  What 'rectoref02.Clean' does.
-/
import Derived.Test.YtgdhnpjblnhjmaaDoorROf
namespace Go.Proofs.YtgdhnpjblnhjmaaDoor
open Go.RowKit
set_option linter.unusedVariables false

theorem field_all (a : Option Addr) (n cap : Nat) (r : Bool) (w : World) : (Instr.field 55 (.agg #[.slice a n cap, .bool r]) 0).run Tryd.prog w = .ok (.slice a n cap) w := by kernel_rfl

set_option maxHeartbeats 1000000 in
theorem rclean_main (s : ByteArray) (cs : List Int) (r : Bool) (w : World) (C : Hid (OfIs s cs r)) (hcs : ∀ c ∈ cs, isC c = true) (hlen : cs.length ≤ 100000) :
    Calls Tryd.prog 34 #[.string s] w fun e w' => e = .returned (.string (bs (cs.map ub).flatten)) ∧ Below w.heap.size w w' := by
  have HCS := hide hcs
  clear hcs
  go_enter Tryd.func34, Tryd.ntmps34
  go_wp2_with fail
  refine (unhide C _).mono ?_
  rintro e w1 ⟨v, rfl, hv, hb1⟩
  have HV := hide hv
  obtain ⟨a, cap, rfl, hx⟩ := hv
  have HX := hide hx
  clear hx
  generalize hn : cs.length = n at *
  have HN := hide hn.symm
  clear hn
  have hfa := field_all
  go_wp2
  by_cases h0 : n = 0
  · have hcn : cs = [] := List.eq_nil_of_length_eq_zero (by rw [← unhide HN]; exact h0)
    have HE := hide hcn
    clear hcn
    subst h0
    refine wp_loop_rounds 1 ?_
    rw [rounds_succ]; go_wp2
    go_ret
    exact ⟨by rw [unhide HE]; rfl, hb1⟩
  · obtain ⟨b, off, hab, hc⟩ := unhide HX (by omega)
    subst hab
    have HC := hide hc
    clear hc
    go_loopw [3, 10] (fun o i wr => ∃ k : Nat, k ≤ n ∧ i = .int .i64 k ∧ o = .string (bs (flatU cs k)) ∧ Below w1.heap.size w1 wr) (fun _ i _ => n - (intOf i).toNat)
    case atStart => exact ⟨0, Nat.zero_le _, rfl, rfl, Below.refl _ _⟩
    case round =>
      obtain ⟨k, hk, rfl, rfl, hbw⟩ := hrel
      have hsz := flat_len cs k (by rw [← unhide HN]; exact hk)
      rw [← bs_size] at hsz
      by_cases hlt : k < n
      · have hlti : (k : Int) < (n : Int) := by omega
        have hkl : k < cs.length := by rw [← unhide HN]; exact hlt
        obtain ⟨c, hcc⟩ : ∃ c, c = cs.getD k 0 := ⟨_, rfl⟩
        have c1 : wr.cell? ⟨b, off + k, none⟩ = some (.int .i64 c) := by rw [hcc]; exact cell_later hbw (unhide HC k hlt)
        have hic : isC c = true := by
          have e : cs.getD k 0 = cs[k] := by rw [List.getD, List.getElem?_eq_getElem hkl]; rfl
          rw [hcc, e]; exact unhide HCS _ (List.getElem_mem hkl)
        have htk := flat_take cs k hkl
        rw [← hcc] at htk
        have HT := hide htk
        have CB := hide (fun w => rbytes_char c w hic)
        have hq := sz_le c
        have hq2 : (str (ubI c)).size ≤ 4 := by rw [str_len]; omega
        clear htk hkl hcc hic
        go_wp2_with fail
        refine (unhide CB _).mono ?_
        rintro e w2 ⟨rfl, hb2⟩
        go_wp2
        go_roundw
        case rel => exact ⟨k + 1, by omega, by go_num, by rw [unhide HT, str_bs, bs_bs]; rfl, hbw.trans (hb2.mono hbw.size)⟩
        case measure => simp [intOf]; omega
      · have hkn : k = n := by omega
        have e : flatU cs k = (cs.map ub).flatten := by rw [hkn, unhide HN, flatU, List.take_length]
        have E := hide e
        clear hkn e
        go_wp2
        go_ret
        exact ⟨by rw [unhide E]; rfl, tr2 hb1 hbw⟩

theorem rclean_any (s : ByteArray) (w : World) (hs : s.size ≤ 100000) :
    Calls Tryd.prog 34 #[.string s] w fun e w' => e = .returned (.string (bs (cleanL s.data.toList))) ∧ Below w.heap.size w w' := by
  rw [cleanL_eq]
  refine rclean_main s _ _ w (hide (ofIs s hs)) ?_ ?_
  · intro c hc
    obtain ⟨p, hp, rfl⟩ := List.mem_map.1 hc
    exact ch_isC s.data.toList.length s.data.toList (Nat.le_refl _) p hp
  · have := ch_len s.size s.data.toList (by rw [data_len]; exact Nat.le_refl _)
    rw [data_len] at this
    simp; omega
end Go.Proofs.YtgdhnpjblnhjmaaDoor
