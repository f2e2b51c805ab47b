/-
  Several texts in one: what the functions of the program and of the document's answer do.
-/
import Derived.Test.YtemccomnhjhjeaaDoorRAe
import Derived.Deep.RegionWith
import Derived.Test.YtemccomnhjhjeaaDoorYNo
import Derived.Test.YtemccomnhjhjeaaDoorYUn

/-
  What the reference's Number does.
-/
namespace Go.Proofs.YtemccomnhjhjeaaDoor
open Go.RowKit
set_option linter.unusedVariables false
set_option linter.unusedSimpArgs false

/-- A way that leads to a node. -/
def WayOk : Forest → List Int → Prop
  | _, [] => True
  | f, p :: r => 0 ≤ p ∧ p < (f.len : Int) ∧ WayOk (kidsAt f p.toNat) r
/-- The number of the node at a way. -/
def numF : Forest → List Int → Nat
  | _, [] => 0
  | f, p :: r => (f.count - (f.drop p.toNat).count) + (if r = [] then 0 else 1 + numF (kidsAt f p.toNat) r)
set_option maxHeartbeats 8000000 in
set_option maxRecDepth 100000 in
theorem rnum_step (p : Nat) (r : List Int) (f : Forest) (g o cap : Nat) (gw ow m cw : Nat) (w : World) (hl : Lies f g o w) (hp : p < f.len) (hcap : f.len ≤ cap) (hc : f.count ≤ 500000) (hw : IntsV (some ⟨gw, ow, none⟩) (m + 1) ((p : Int) :: r) w) (hcw : m + 1 ≤ cw) (hn : m + 1 ≤ 1000000)
    (hnum : numF f ((p : Int) :: r) ≤ 1000000)
    (ih : r ≠ [] → ∀ q cap W, Fo q (kidsAt f p) W → (kidsAt f p).len ≤ cap → IntsV (some ⟨gw, ow + 1, none⟩) m r W → Calls Tryd.prog 14 #[.slice q (kidsAt f p).len cap, .slice (some ⟨gw, ow + 1, none⟩) m (cw - 1)] W fun e W' => e = .returned (.int .i64 (numF (kidsAt f p) r : Nat)) ∧ Below W.heap.size W W') :
    Calls Tryd.prog 14 #[.slice (some ⟨g, o, none⟩) f.len cap, .slice (some ⟨gw, ow, none⟩) (m + 1) cw] w fun e w' => e = .returned (.int .i64 (numF f ((p : Int) :: r) : Nat)) ∧ Below w.heap.size w w' := by
  have HL := hide hl
  have HW := hide hw
  have HIH := hide ih
  have cz : w.cell? ⟨gw, ow, none⟩ = some (.int .i64 (p : Int)) := by
    obtain ⟨g', o', e, hcz⟩ := hw.2 (by omega)
    injection e with e
    injection e with e1 e2
    subst e1 e2
    have := hcz 0 (by omega)
    simpa [List.getD] using this
  have hmr : m = r.length := by have := hw.1; simpa using this
  have HMR := hide hmr
  have hlc := f.len_count
  obtain ⟨R, hR⟩ : ∃ R : Nat, numF f ((p : Int) :: r) = R := ⟨_, rfl⟩
  rw [hR] at hnum
  rw [hR]
  have HR : Hid ((f.count - (f.drop p).count) + (if r = [] then 0 else 1 + numF (kidsAt f p) r) = R) := hide (by rw [← hR]; rfl)
  have hpi : (p : Int) < (f.len : Int) := by omega
  have hpc : (p : Int) ≤ (cap : Int) := by omega
  have hp0 : (0 : Int) ≤ (p : Int) := by omega
  have hm1 : (0 : Int) ≤ (m : Int) := by omega
  clear hl hw ih hmr hR
  go_enter Tryd.func14, Tryd.ntmps14
  go_wp2
  go_loopw [5, 14] (fun a b wr => ∃ j c : Nat, j ≤ p ∧ b = .int .i64 j ∧ a = .int .i64 c ∧ c + (f.drop j).count = f.count ∧ Below w.heap.size w wr) (fun _ b _ => p - (intOf b).toNat)
  case atStart => exact ⟨0, 0, Nat.zero_le _, rfl, rfl, by rw [Forest.drop_zero]; omega, Below.refl _ _⟩
  case round =>
    obtain ⟨j, c, hj, rfl, rfl, hsum, hbw⟩ := hrel
    by_cases hjp : j < p
    · have hjpi : (j : Int) < (p : Int) := by omega
      obtain ⟨k, sp, n, ats, tx, kids, hd⟩ := f.drop_cons j (by omega)
      have hlw := ((unhide HL).drop j).below hbw
      rw [hd] at hlw hsum
      obtain ⟨⟨c0, c1, c2, ⟨qa, ca, c3, hsl⟩, c4, ⟨qk, ck, c5, hck, hfo⟩⟩, _⟩ := hlw
      have hsum' : c + (1 + kids.count + (f.drop (j + 1)).count) = f.count := hsum
      have hbA := (Below.refl wr.heap.size wr).alloc (Nat.le_refl _) (Obj.cells #[.int .i64 k, .int .i64 sp, .string n, .slice qa ats.length ca, .string tx, .slice qk kids.len ck] 34)
      have CK := hide (rcount_any kids.count kids (Nat.le_refl _) (by omega) qk ck _ ((show Fo qk kids wr from hfo).below hbA))
      have HB := hide (tr2 hbw hbA)
      generalize kids.len = kl at *
      generalize kids.count = kc at *
      have HS := hide hsum'
      have b1 : (c : Int) + 1 ≤ 1000000 := by omega
      have b2 : (c : Int) + 1 + (kc : Int) ≤ 1000000 := by omega
      clear hsl hfo hd hsum hsum' hbA hbw HIH hpi hpc
      go_wp2_with fail
      refine (unhide CK).mono ?_
      rintro e w1 ⟨rfl, hb1⟩
      have HB1 := hide (tr2 (unhide HB) hb1)
      clear hb1 CK
      go_wp2
      go_roundw
      case rel => exact ⟨j + 1, c + 1 + kc, by omega, by go_num, by first | rfl | (congr 1) | skip, by have := unhide HS; omega, unhide HB1⟩
      case measure => simp [intOf]; omega
    · obtain rfl : j = p := by omega
      have hjpi : ¬ (j : Int) < (j : Int) := by omega
      have hcc : f.count - (f.drop j).count = c := by omega
      have HB := hide hbw
      have czr := cell_later hbw cz
      obtain ⟨k, sp, n, ats, tx, kids, hd⟩ := f.drop_cons j hp
      have hkd := kidsAt_eq hd
      have hlw := ((unhide HL).drop j).below hbw
      rw [hd] at hlw
      obtain ⟨⟨c0, c1, c2, ⟨qa, ca, c3, hsl⟩, c4, ⟨qk, ck, c5, hck, hfo⟩⟩, _⟩ := hlw
      by_cases hr : r = []
      · obtain rfl : m = 0 := by rw [unhide HMR, hr]; rfl
        have HRC : Hid (R = c) := hide (by have := unhide HR; rw [if_pos hr, hcc] at this; omega)
        clear hsl hfo hbw hsum HIH hd hcc hpi hpc
        go_wp2
        go_ret
        exact ⟨by rw [unhide HRC]; rfl, unhide HB⟩
      · have hRC : R = c + (1 + numF (kidsAt f j) r) := by have := unhide HR; rw [if_neg hr, hcc] at this; omega
        have hm0 : m ≠ 0 := by rw [unhide HMR]; intro e; exact hr (List.eq_nil_of_length_eq_zero e)
        rw [hkd] at HIH hRC
        have CC := hide (fun W h1 h2 => unhide HIH hr qk ck W h1 hck h2)
        have HFd := hide ((show Fo qk kids wr from hfo).below (Below.drew (Below.refl _ _)))
        have HWd := hide ((ints_tail ((unhide HW).below hbw)).below (Below.drew (Below.refl _ _)))
        have hcw1 : ¬ cw = 1 := by omega
        have hm5 : (m == 0) = false := beq_eq_false_iff_ne.2 hm0
        generalize numF kids r = X at *
        have hx1 : (c : Int) + 1 + (X : Int) ≤ 1000000 := by omega
        have hx2 : (c : Int) + 1 ≤ 1000000 := by omega
        have HRC : Hid ((c : Int) + 1 + (X : Int) = (R : Int)) := hide (by omega)
        have hw1 : IntKind.i64.wrap ((c : Int) + 1) = (c : Int) + 1 := by rw [IntKind.wrap_i64]; omega
        have hw2 : IntKind.i64.wrap ((c : Int) + 1 + (X : Int)) = (c : Int) + 1 + (X : Int) := by rw [IntKind.wrap_i64]; omega
        generalize kids.len = kl at *
        clear hsl hfo hbw hsum HIH hd hcc hkd hRC hck hr hm0 hcw hn hcap hc hlc hx1 hx2 hnum hpc
        go_wp2
        go_region_with (go_at_call 14; refine Calls.mono (unhide CC _ (unhide HFd) (unhide HWd)) ?_; rintro e w4 ⟨rfl, hb4⟩; have HB4 := hide ((unhide HB).drew.trans (hb4.mono (unhide HB).size)); clear hb4)
        all_goals (
          go_wp2
          go_ret
          exact ⟨by rw [← unhide HRC]; rfl, unhide HB4⟩)
theorem rnum_any : ∀ (zs : List Int) (f : Forest) (q : Option Addr) (cap : Nat) (qw : Option Addr) (n cw : Nat) (w : World), zs ≠ [] → WayOk f zs → Fo q f w → f.len ≤ cap → f.count ≤ 500000 → IntsV qw n zs w → n ≤ cw → n ≤ 1000000 → numF f zs ≤ 1000000 → Calls Tryd.prog 14 #[.slice q f.len cap, .slice qw n cw] w fun e w' => e = .returned (.int .i64 (numF f zs : Nat)) ∧ Below w.heap.size w w'
  | [], f, q, cap, qw, n, cw, w, h0, ho, hf, hcap, hc, hw, hcw, hn, hx => absurd rfl h0
  | z :: r, f, q, cap, qw, n, cw, w, h0, ⟨z0, z1, ho⟩, hf, hcap, hc, hw, hcw, hn, hx => by
    obtain ⟨m, rfl⟩ : ∃ m, n = m + 1 := ⟨r.length, by simpa using hw.1⟩
    obtain ⟨gw, ow, rfl, hcz⟩ := hw.2 (by omega)
    obtain ⟨p, rfl⟩ : ∃ p : Nat, z = (p : Int) := ⟨z.toNat, by omega⟩
    have hp : p < f.len := by omega
    obtain ⟨g, o, rfl, hl⟩ : ∃ g o, q = some ⟨g, o, none⟩ ∧ Lies f g o w := by
      rcases hf with h | h
      · rw [h] at hp; simp [Forest.len] at hp
      · exact h
    have hkc := kidsAt_count f p
    refine rnum_step p r f g o cap gw ow m cw w hl hp hcap hc hw hcw hn hx (fun hr q cap W h1 h2 h3 => rnum_any r (kidsAt f p) q cap _ m (cw - 1) W hr ho h1 h2 (by omega) h3 (by omega) (by omega) ?_)
    have hx' : (f.count - (f.drop p).count) + (if r = [] then 0 else 1 + numF (kidsAt f p) r) ≤ 1000000 := hx
    rw [if_neg hr] at hx'
    omega
end Go.Proofs.YtemccomnhjhjeaaDoor

/-
  Items and ways: plain facts.
-/
namespace Go.Proofs.YtemccomnhjhjeaaDoor
open Go.RowKit
set_option linter.unusedVariables false
set_option linter.unusedSimpArgs false

theorem kidsAt_succ (k sp : Int) (n : ByteArray) (ats : List (ByteArray × ByteArray)) (tx : ByteArray) (kids rest : Forest) (i : Nat) : kidsAt (.cons k sp n ats tx kids rest) (i + 1) = kidsAt rest i := rfl
theorem kidsAt_zero (k sp : Int) (n : ByteArray) (ats : List (ByteArray × ByteArray)) (tx : ByteArray) (kids rest : Forest) : kidsAt (.cons k sp n ats tx kids rest) 0 = kids := rfl
theorem toNat_cast (i : Nat) : ((i : Int)).toNat = i := Int.toNat_natCast i
/-- What is known of a node, its item and its way. -/
structure ItWay (f : Forest) (num : Nat) (par : Int) (pl dep j : Nat) (x : It) (i : Nat) (R : List Int) : Prop where
  way : wayF f pl (j : Int) = ((pl + i : Nat) : Int) :: R
  il : i < f.len
  e0 : atE f ((i : Int) :: R) = 0
  nd : ∃ k sp n ats tx kids rest, atN f ((i : Int) :: R) = .cons k sp n ats tx kids rest ∧ szA f j = 1 + (kids.count : Int)
  x1 : x.1 = ((num + j : Nat) : Int)
  x3 : x.2.2.1 = (((pl + i : Nat) : Int) :: R).getLast (by simp)
  x4 : x.2.2.2 = ((dep + R.length : Nat) : Int)
  p0 : R = [] → x.2.1 = par
  p1 : R ≠ [] → x.2.1 = ((num + numF f (((i : Int) :: R).dropLast) : Nat) : Int)
  ok : WayOk f ((i : Int) :: R)
  nm : numF f ((i : Int) :: R) = j
theorem itway : ∀ (f : Forest) (num : Nat) (par : Int) (pl dep j : Nat) (x : It), (itm f num par pl dep)[j]? = some x → ∃ i R, ItWay f num par pl dep j x i R
  | .nil, num, par, pl, dep, j, x, h => by simp [itm] at h
  | .cons k sp n ats tx kids rest, num, par, pl, dep, j, x, h => by
    have hC : (Forest.cons k sp n ats tx kids rest).count = 1 + kids.count + rest.count := rfl
    have hL : (Forest.cons k sp n ats tx kids rest).len = rest.len + 1 := rfl
    simp only [itm] at h
    rcases j with _ | j
    · simp at h; subst h
      refine ⟨0, [], ⟨?_, by omega, ?_, ⟨k, sp, n, ats, tx, kids, rest, ?_, szA_head _ _ _ _ _ _ _⟩, rfl, rfl, rfl, fun _ => rfl, fun h => absurd rfl h, ⟨by simp, by rw [hL]; omega, trivial⟩, ?_⟩⟩
      · simp only [wayF]; rw [if_pos (show ((0 : Nat) : Int) = 0 from rfl)]; rfl
      · unfold atE; rw [if_neg (by rw [hL]; omega), if_pos rfl]
      · unfold atN; rw [if_pos rfl]; rfl
      · unfold numF; rw [if_pos rfl]
        show (Forest.cons k sp n ats tx kids rest).count - (Forest.cons k sp n ats tx kids rest).count + 0 = 0
        omega
    · rw [List.getElem?_cons_succ] at h
      by_cases hj : j < kids.count
      · rw [List.getElem?_append_left (by rw [itm_len]; exact hj)] at h
        obtain ⟨i, R, hw⟩ := itway kids (num + 1) (num : Int) 0 (dep + 1) j x h
        have hne : ((i : Int) :: R) ≠ [] := by simp
        refine ⟨0, (i : Int) :: R, ⟨?_, by omega, ?_, ?_, by rw [hw.x1]; omega, ?_, ?_, fun h => absurd h hne, fun _ => ?_, ⟨by simp, by rw [hL]; omega, hw.ok⟩, ?_⟩⟩
        · simp only [wayF]
          rw [if_neg (by omega), if_pos (by omega), show (((j + 1 : Nat) : Int) - 1) = (j : Int) by omega, hw.way, Nat.zero_add]; rfl
        · conv => lhs; unfold atE
          rw [if_neg (by rw [hL]; omega), if_neg hne]
          exact hw.e0
        · obtain ⟨k', sp', n', ats', tx', kids', rest', e, es⟩ := hw.nd
          refine ⟨k', sp', n', ats', tx', kids', rest', ?_, by rw [szA_kids _ _ _ _ _ _ _ _ hj]; exact es⟩
          conv => lhs; unfold atN
          rw [if_neg hne]; exact e
        · rw [hw.x3]
          rw [List.getLast_cons hne]
          congr 1
          rw [Nat.zero_add]
        · rw [hw.x4]; simp only [List.length_cons]; omega
        · have hdl : (((0 : Nat) : Int) :: (i : Int) :: R).dropLast = ((0 : Nat) : Int) :: ((i : Int) :: R).dropLast := rfl
          rw [hdl]
          by_cases hR : R = []
          · subst hR
            rw [hw.p0 rfl]
            show (num : Int) = ((num + numF _ [((0 : Nat) : Int)] : Nat) : Int)
            unfold numF
            rw [if_pos rfl]
            show (num : Int) = ((num + ((Forest.cons k sp n ats tx kids rest).count - (Forest.cons k sp n ats tx kids rest).count + 0) : Nat) : Int)
            omega
          · rw [hw.p1 hR]
            have hd0 : ((i : Int) :: R).dropLast ≠ [] := by
              cases R with
              | nil => exact absurd rfl hR
              | cons a b => simp
            conv => rhs; unfold numF
            rw [if_neg hd0]
            show ((num + 1 + numF kids _ : Nat) : Int) = ((num + ((Forest.cons k sp n ats tx kids rest).count - (Forest.cons k sp n ats tx kids rest).count + (1 + numF kids _)) : Nat) : Int)
            omega
        · unfold numF
          rw [if_neg hne]
          show (Forest.cons k sp n ats tx kids rest).count - (Forest.cons k sp n ats tx kids rest).count + (1 + numF kids ((i : Int) :: R)) = j + 1
          rw [hw.nm]; omega
      · rw [List.getElem?_append_right (by rw [itm_len]; omega), itm_len] at h
        obtain ⟨i, R, hw⟩ := itway rest (num + 1 + kids.count) par (pl + 1) dep (j - kids.count) x h
        have hi := hw.il
        have hsz := szA_rest k sp n ats tx kids rest (j - kids.count)
        rw [show kids.count + (j - kids.count) + 1 = j + 1 by omega] at hsz
        have hrc := Forest.count_drop i rest
        refine ⟨i + 1, R, ⟨?_, by omega, ?_, ?_, by rw [hw.x1]; omega, ?_, hw.x4, hw.p0, fun hR => ?_, ?_, ?_⟩⟩
        · simp only [wayF]
          rw [if_neg (by omega), if_neg (by omega), show (((j + 1 : Nat) : Int) - 1 - (kids.count : Int)) = ((j - kids.count : Nat) : Int) by omega, hw.way, show pl + 1 + i = pl + (i + 1) by omega]
        · have := hw.e0
          unfold atE at this ⊢
          rw [if_neg (by omega)] at this
          rw [if_neg (by rw [hL]; omega), toNat_cast]
          rw [toNat_cast] at this
          exact this
        · obtain ⟨k', sp', n', ats', tx', kids', rest', e, es⟩ := hw.nd
          refine ⟨k', sp', n', ats', tx', kids', rest', ?_, by rw [hsz]; exact es⟩
          unfold atN at e ⊢
          rw [toNat_cast] at e ⊢
          exact e
        · rw [hw.x3]; congr 1; rw [show pl + 1 + i = pl + (i + 1) by omega]
        · rw [hw.p1 hR]
          have hd1 : ∀ a : Int, (a :: R).dropLast = a :: R.dropLast := fun a => by
            cases R with
            | nil => exact absurd rfl hR
            | cons b c => rfl
          rw [hd1, hd1]
          unfold numF
          rw [toNat_cast, toNat_cast]
          show ((num + 1 + kids.count + (rest.count - (rest.drop i).count + _) : Nat) : Int) = ((num + ((Forest.cons k sp n ats tx kids rest).count - (rest.drop i).count + _) : Nat) : Int)
          rw [hC, kidsAt_succ]
          omega
        · obtain ⟨_, _, o3⟩ := hw.ok
          refine ⟨by omega, by rw [hL]; omega, ?_⟩
          rw [toNat_cast] at o3 ⊢
          exact o3
        · have := hw.nm
          unfold numF at this ⊢
          rw [toNat_cast] at this ⊢
          show (Forest.cons k sp n ats tx kids rest).count - (rest.drop i).count + _ = j + 1
          rw [hC, kidsAt_succ]
          omega
end Go.Proofs.YtemccomnhjhjeaaDoor

/-
  rectolaw19.large; the plain comparison of one node told twice.
-/
namespace Go.Proofs.YtemccomnhjhjeaaDoor
open Go.RowKit
set_option linter.unusedVariables false
set_option linter.unusedSimpArgs false

set_option maxHeartbeats 2000000 in
theorem large19_any (f : Forest) (q : Option Addr) (cap : Nat) (w : World) (hf : Fo q f w) :
    Calls Tryd.prog 8 #[.slice q f.len cap] w fun e w' => e = .returned (.bool (lgT 1 f 400).1) ∧ Below w.heap.size w w' := by
  have CL := hide (large_any f.count f (Nat.le_refl _) 1 q cap w.heap.size 400 w (w.alloc (Obj.cells #[.int .i64 400] 59)) (by omega) (Nat.le_refl _) (by omega) hf ((Below.refl _ _).alloc (Nat.le_refl _) _) (Blk.new w _ _))
  rw [show ((1 : Nat) : Int) = 1 from rfl] at CL
  generalize lgT 1 f 400 = r at *
  generalize f.len = fl at *
  clear hf
  go_enter Tryd.func8, Tryd.ntmps8
  go_wp2_with fail
  refine (unhide CL).mono ?_
  rintro e w1 ⟨rfl, _, hb⟩
  go_wp2
  go_ret
  exact ⟨rfl, hb⟩
theorem zeroNd_is (w : World) : NdV 0 0 ⟨#[]⟩ [] ⟨#[]⟩ .nil zeroNd w := ⟨none, 0, none, 0, rfl, Or.inl rfl, Or.inl rfl, Nat.le_refl _⟩
theorem ndv_same (k sp : Int) (n : ByteArray) (ats : List (ByteArray × ByteArray)) (tx : ByteArray) (kids : Forest) (v1 v2 : Value) (w : World) (h1 : NdV k sp n ats tx kids v1 w) (h2 : NdV k sp n ats tx kids v2 w) (hs : SmF kids) (hl : ats.length ≤ 1000000000) (hc : kids.count ≤ 1000000) :
    Calls Tryd.prog 17 #[v1, v2] w fun e w' => e = .returned (.bool true) ∧ Below w.heap.size w w' := by
  obtain ⟨qa, ca, qk, ck, rfl, a1, a2, a3⟩ := h1
  obtain ⟨qa', ca', qk', ck', rfl, b1, b2, b3⟩ := h2
  have hkl := kids.len_count
  have hsk : sameF kids kids = true := (sameF_eq kids kids).2 rfl
  have := pnode_any k sp n ats tx k sp n ats tx qa qa' qk qk' ca ca' ck ck' kids.len kids.len true w a1 b1 hl hl (fun W hW => by
    have := nodes_any kids.count kids (Nat.le_refl _) hc hs kids qk qk' ck ck' W (a2.below hW) (b2.below hW) hs (by omega)
    rw [hsk] at this
    exact this)
  have hal : alikeN k sp n ats tx k sp n ats tx = true := by
    unfold alikeN
    simp only [decide_true, Bool.true_and]
    exact decide_eq_true rfl
  rw [hal, Bool.true_and] at this
  exact this
/-- One node, told twice. -/
theorem nods_same (f : Forest) (zs : List Int) (v1 v2 : Value) (w : World) (h1 : NodS f zs v1 w) (h2 : NodS f zs v2 w) (hs : SmF (atN f zs)) (hc : (atN f zs).count ≤ 1000000) :
    Calls Tryd.prog 17 #[v1, v2] w fun e w' => e = .returned (.bool true) ∧ Below w.heap.size w w' := by
  rcases h1 with ⟨h1, rfl⟩ | ⟨h1, k, sp, n, ats, tx, kids, rest, e1, n1⟩
  · rcases h2 with ⟨_, rfl⟩ | ⟨h2, _⟩
    · exact ndv_same 0 0 ⟨#[]⟩ [] ⟨#[]⟩ .nil zeroNd zeroNd w (zeroNd_is w) (zeroNd_is w) trivial (by simp) (by simp [Forest.count])
    · exact absurd h2 h1
  · rcases h2 with ⟨h2, _⟩ | ⟨_, k', sp', n', ats', tx', kids', rest', e2, n2⟩
    · exact absurd h1 h2
    · rw [e1] at e2 hs hc
      injection e2 with a1 a2 a3 a4 a5 a6 a7
      subst a1 a2 a3 a4 a5 a6
      have hf : Fits ats := hs.1.2.2.1
      simp only [Forest.count] at hc
      exact ndv_same k sp n ats tx kids v1 v2 w n1 n2 hs.2.1 (by have := hf.1; omega) (by omega)
theorem atN_small : ∀ (zs : List Int) (f : Forest), SmF f → SmF (atN f zs) ∧ (atN f zs).count ≤ f.count
  | [], f, h => ⟨trivial, Nat.zero_le _⟩
  | p :: r, f, h => by
    unfold atN
    by_cases hr : r = []
    · rw [if_pos hr]; exact ⟨SmF.drop _ f h, Forest.count_drop _ f⟩
    · rw [if_neg hr]
      have := atN_small r (kidsAt f p.toNat) (h.kidsAt p.toNat)
      exact ⟨this.1, Nat.le_trans this.2 (kidsAt_count f _)⟩
theorem atE_cases (f : Forest) (zs : List Int) : 0 ≤ atE f zs ∧ atE f zs ≤ 6 := by
  induction zs generalizing f with
  | nil => unfold atE; omega
  | cons p r ih =>
    unfold atE
    split
    · omega
    · split
      · omega
      · exact ih _
end Go.Proofs.YtemccomnhjhjeaaDoor
