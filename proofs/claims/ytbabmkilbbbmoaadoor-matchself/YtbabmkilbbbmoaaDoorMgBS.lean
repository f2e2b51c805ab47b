/-
  Several texts in one: what the functions of the program and of the document's answer do.
-/
import Derived.Test.YtbabmkilbbbmoaaDoorHeM
import Derived.Test.YtbabmkilbbbmoaaDoorRLi
import Derived.Test.YtbabmkilbbbmoaaDoorMgAK

/-
  What rectoref20.number does.
-/
namespace Go.Proofs.YtbabmkilbbbmoaaDoor
open Go.RowKit Go.Maps
set_option linter.unusedVariables false
set_option linter.unusedSimpArgs false

set_option maxHeartbeats 2000000 in
theorem rnumber_any (F : Forest) (g o cap A a : Nat) (w : World) (hl : Lies F g o w) (hA : A ≤ F.len) (hcap : F.len ≤ cap) (hc : F.count ≤ 4000) (ha : a ≤ 4000) :
    Calls Tryd.prog 35 #[.slice (some ⟨g, o, none⟩) F.len cap, .int .i64 (A : Int), .int .i64 (a : Int)] w fun e w' => e = .returned (.int .i64 ((numE F a A : Nat) : Int)) ∧ Below w.heap.size w w' := by
  have hcc := tkF_count A F
  have CC := hide (rcount_any (tkF A F).count (tkF A F) (Nat.le_refl _) (by omega) (some ⟨g, o, none⟩) cap w (.inr ⟨g, o, rfl, tkF_lies A F o hl⟩))
  rw [tkF_len A F hA] at CC
  have hn : ((numE F a A : Nat) : Int) = (a : Int) + ((tkF A F).count : Int) := by unfold numE; omega
  have h1 : (A : Int) ≤ (cap : Int) := by omega
  have h2 : (0 : Int) ≤ (A : Int) := by omega
  have h3 : ((tkF A F).count : Int) ≤ 4000 := by omega
  have h4 : (a : Int) ≤ 4000 := by omega
  rw [hn]
  generalize (tkF A F).count = c at *
  generalize F.len = fl at *
  clear hl hc hcc
  go_enter Tryd.func35, Tryd.ntmps35
  go_wp2_with fail
  refine (unhide CC).mono ?_
  rintro e w1 ⟨rfl, hb⟩
  go_wp2
  go_ret
  exact ⟨rfl, hb⟩
end Go.Proofs.YtbabmkilbbbmoaaDoor

/-
  The law MatchLists.
-/
namespace Go.Proofs.YtbabmkilbbbmoaaDoor
open Go.RowKit Go.Maps
set_option linter.unusedVariables false
set_option linter.unusedSimpArgs false

set_option maxHeartbeats 2000000 in
theorem large20_any (f : Forest) (q : Option Addr) (cap : Nat) (w : World) (hf : Fo q f w) :
    Calls Tryd.prog 8 #[.slice q f.len cap] w fun e w' => e = .returned (.bool (lgT 1 f 250).1) ∧ Below w.heap.size w w' := by
  have CL := hide (large_any f.count f (Nat.le_refl _) 1 q cap w.heap.size 250 w (w.alloc (Obj.cells #[.int .i64 250] 60)) (by omega) (Nat.le_refl _) (by omega) hf ((Below.refl _ _).alloc (Nat.le_refl _) _) (Blk.new w _ _))
  rw [show ((1 : Nat) : Int) = 1 from rfl] at CL
  generalize lgT 1 f 250 = r at *
  generalize f.len = fl at *
  clear hf
  go_enter Tryd.func8, Tryd.ntmps8
  go_wp2_with fail
  refine (unhide CL).mono ?_
  rintro e w1 ⟨rfl, _, hb⟩
  go_wp2
  go_ret
  exact ⟨rfl, hb⟩
theorem open_nodesR {H : Type} {enc : TypeId × Value → H} {W : World} {qa : Option Addr} {len cap : Nat} {d : DataW H} {ps : List MemPlace}
    (h : DataW.Trod enc Tryd.prog W 0 (fun _ => true) true 22 (.slice qa len cap) d ps) : ∃ f : Forest, f.len = len ∧ len ≤ cap ∧ Fo qa f W ∧ RngF f := by
  obtain ⟨n, t0⟩ := h
  have t1 : DataW.trod enc Tryd.prog W 0 (fun _ => true) true n 22 [.slice qa len cap] = some (d, ps) := by simpa [Value.cells] using t0
  obtain ⟨f, q, c, e, hc, hf, hr⟩ := open_forestR _ n _ d ps (Nat.le_refl _) t1
  injection e with e1 e2 e3
  subst e1 e2 e3
  exact ⟨f, rfl, hc, hf, hr⟩
theorem kidsOk_count (f : Forest) (h : f.count ≤ 4000) : KidsOk f := fun k kk sp n ats tx kids rest hk hd => by
  have h1 := f.count_drop k
  rw [hd] at h1
  simp only [Forest.count] at h1
  omega

set_option maxHeartbeats 4000000 in
set_option maxRecDepth 100000 in
theorem matchLists_walk (f h : Forest) (qa qb : Option Addr) (ca cb : Nat) (w : World) (hf : Fo qa f w) (hh : Fo qb h w) (rf : RngF f) (rh : RngF h) (ht : TabP w) :
    Calls Tryd.prog 3 #[.slice qa f.len ca, .slice qb h.len cb] w fun e w' => e = .returned (.bool true) ∧ Below w.heap.size w w' := by
  have CLf := hide (large20_any f qa ca w hf)
  have CLh := hide (fun W hW => large20_any h qb cb W (hh.below hW))
  have CS := hide lines_any
  obtain ⟨b1, n1, hlg1⟩ : ∃ b n, lgT 1 f 250 = (b, n) := ⟨_, _, rfl⟩
  obtain ⟨b2, n2, hlg2⟩ : ∃ b n, lgT 1 h 250 = (b, n) := ⟨_, _, rfl⟩
  rw [hlg1] at CLf
  simp only [hlg2] at CLh
  dsimp only at CLf CLh
  by_cases hbig : b1 = true ∨ b2 = true
  · have hpick : Hid (b1 = true ∨ (b1 = false ∧ b2 = true)) := hide (by cases b1 <;> simp_all)
    clear hf hh rf rh ht hlg1 hlg2 hbig
    generalize f.len = fl at *
    generalize h.len = hl at *
    go_enter Tryd.func3, Tryd.ntmps3
    go_wp2_with fail
    refine (unhide CLf).mono ?_
    rintro e w1 ⟨rfl, hb1⟩
    have HB := hide hb1
    clear CLf
    rcases unhide hpick with rfl | ⟨rfl, rfl⟩
    · have C3 := hide (unhide CS w1)
      clear hb1
      go_wp2_with fail
      refine (unhide C3).mono ?_
      rintro e w2 ⟨rfl, hb2⟩
      have HB2 := hide (tr2 (unhide HB) hb2)
      clear C3 hb2
      go_wp2
      go_ret
      exact ⟨rfl, unhide HB2⟩
    · have C2 := hide (unhide CLh w1 hb1)
      clear hb1
      go_wp2_with fail
      refine (unhide C2).mono ?_
      rintro e w2 ⟨rfl, hb2⟩
      have HB2 := hide (tr2 (unhide HB) hb2)
      have C3 := hide (unhide CS w2)
      clear C2 hb2
      go_wp2_with fail
      refine (unhide C3).mono ?_
      rintro e w3 ⟨rfl, hb3⟩
      have HB3 := hide (tr2 (unhide HB2) hb3)
      clear C3 hb3
      go_wp2
      go_ret
      exact ⟨rfl, unhide HB3⟩
  have hx1 : b1 = false := by cases b1 <;> simp_all
  have hx2 : b2 = false := by cases b2 <;> simp_all
  subst hx1
  subst hx2
  obtain ⟨sf, _⟩ := lgT_small (by omega) hlg1
  obtain ⟨sh, _⟩ := lgT_small (by omega) hlg2
  have r1 := lgT_room 1 f 250 n1 hlg1
  have r2 := lgT_room 1 h 250 n2 hlg2
  have c1 : f.count ≤ 250 := by omega
  have c2 : h.count ≤ 250 := by omega
  have l1 := f.len_count
  have l2 := h.len_count
  have kf := kidsOk_count f (by omega)
  have kh := kidsOk_count h (by omega)
  have hfl := mtF_len (eqT (lsT f) (lsT h)) f.len h.len _ 0 0 (Nat.zero_le _) (rise_any _ _ _ (lnP_riseM (eqT (ksT f) (ksT h)) f.len h.len _ 0 0 (Nat.le_refl _)))
  have hll : (ltP f h).length ≤ 1000000 := by unfold ltP; omega
  have C1 := hide (fun W hW => mlists_any qa qb ca cb f h W (hf.below hW) (hh.below hW) sf sh rf rh kf kh (ht.below hW) (by omega) (by omega))
  have C2 := hide (fun W hW => rlists_any qa qb ca cb f h W (hf.below hW) (hh.below hW) sf sh kf kh (by omega) (by omega))
  generalize ltP f h = L at *
  clear hf hh rf rh ht hlg1 hlg2 hbig sf sh r1 r2 c1 c2 l1 l2 kf kh hfl
  generalize f.len = fl at *
  generalize h.len = hl at *
  go_enter Tryd.func3, Tryd.ntmps3
  go_wp2_with fail
  refine (unhide CLf).mono ?_
  rintro e w1 ⟨rfl, hb1⟩
  have HB1 := hide hb1
  have CLh' := hide (unhide CLh w1 hb1)
  clear CLf CLh hb1
  go_wp2_with fail
  refine (unhide CLh').mono ?_
  rintro e w2 ⟨rfl, hb2⟩
  have HB2 := hide (tr2 (unhide HB1) hb2)
  have C1' := hide (unhide C1 w2 (unhide HB2))
  clear CLh' hb2 C1
  go_wp2_with fail
  refine (unhide C1').mono ?_
  rintro e w3 ⟨u1, rfl, hp1, hb3⟩
  have HB3 := hide (tr2 (unhide HB2) hb3)
  have P1 := owns_pr hp1
  obtain ⟨q1, k1, hu1, _⟩ := P1
  subst hu1
  have HP1 := hide (owns_pr hp1)
  have C2' := hide (unhide C2 w3 (unhide HB3))
  clear C1' C2 hp1 hb3
  go_wp2_with fail
  refine (unhide C2').mono ?_
  rintro e w4 ⟨u2, rfl, hp2, hb4⟩
  have P1' := (unhide HP1).below hb4
  have P2 := owns_pr hp2
  obtain ⟨q2, k2, hu2, _⟩ := P2
  subst hu2
  have CM := hide (same20_yes _ _ L w4 P1' (owns_pr hp2) hll)
  have HB4 := hide (tr2 (unhide HB3) hb4)
  clear hp2 hb4 P1' HP1 C2'
  go_wp2_with fail
  refine (unhide CM).mono ?_
  rintro e w5 ⟨rfl, hb5⟩
  have HB5 := hide (tr2 (unhide HB4) hb5)
  have C3 := hide (unhide CS w5)
  clear hb5 CM
  go_wp2_with fail
  refine (unhide C3).mono ?_
  rintro e w6 ⟨rfl, hb6⟩
  have HB6 := hide (tr2 (unhide HB5) hb6)
  clear hb6 C3
  go_wp2
  go_ret
  exact ⟨rfl, unhide HB6⟩
end Go.Proofs.YtbabmkilbbbmoaaDoor
