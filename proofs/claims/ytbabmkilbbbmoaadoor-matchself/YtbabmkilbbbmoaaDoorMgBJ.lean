/-
  Several texts in one: what the functions of the program and of the document's answer do.
-/
import Derived.Test.YtbabmkilbbbmoaaDoorMgBH
import Derived.Test.YtbabmkilbbbmoaaDoorSq

/-
  What 'shortKey' of a page of match does.
-/
namespace Go.Proofs.YtbabmkilbbbmoaaDoor
open Go.RowKit Go.Maps
set_option linter.unusedVariables false
set_option linter.unusedSimpArgs false

def sepZ : List Int → List UInt8
  | [] => []
  | z :: r => 32 :: (itoB z ++ sepZ r)
theorem sepZ_snoc : ∀ (l : List Int) (z : Int), sepZ (l ++ [z]) = sepZ l ++ (32 :: itoB z)
  | [], z => by simp [sepZ]
  | y :: r, z => by rw [List.cons_append, sepZ, sepZ, sepZ_snoc r z, List.cons_append, List.append_assoc]
theorem sepZ_len : ∀ (l : List Int), (∀ z ∈ l, I64 z) → (sepZ l).length ≤ 22 * l.length
  | [], _ => by simp [sepZ]
  | y :: r, h => by
    have h1 := Lib.itoa_length_le y (h y (List.mem_cons_self ..)).1 (h y (List.mem_cons_self ..)).2
    have h2 := sepZ_len r (fun x hx => h x (List.mem_cons_of_mem _ hx))
    rw [sepZ, List.length_cons, List.length_append, List.length_cons]
    unfold itoB
    omega
/-- The kids' short keys, by their numbers. -/
theorem sepZ_kids {D : List (List UInt8)} {f : Forest} {i : Nat} {ks ls : Nat → Int} (h : PgF D f i ks ls) : ∀ (G : Forest) (a : Nat), LyP f G a → i ≤ a → sepZ ((nums G a).map ks) = sepK D (shF D G)
  | .nil, _, _, _ => rfl
  | .cons k sp n ats tx kids r, a, hl, hi => by
    obtain ⟨h1, h2⟩ := lyP_head hl
    have h3 := (h a hi h2).2.1
    rw [h1] at h3
    rw [nums, List.map_cons, sepZ, shF, sepK, sepZ_kids h r _ (atP_next f a h1).2 (by omega), h3]
    rfl
/-- Bytes in memory. -/
def ByR (w : World) (base : Nat) (u : Value) (l : List UInt8) : Prop := w.ownsRow base 5 1 u l.length (Lib.byteCells l)
set_option maxRecDepth 100000 in
theorem byR_str {w : World} {base : Nat} {q : Option Addr} {n c : Nat} {l : List UInt8} (h : ByR w base (.slice q n c) l) : (convert 120 9 (.slice q n c)).run Tryd.prog w = .ok (.string (bs l)) w := by
  obtain ⟨hl, h⟩ := h
  rcases h with ⟨h1, h0⟩ | ⟨g, cap, cur, h0, h1, h2, h3, h4, h5, h6⟩
  · have hn : l = [] := List.eq_nil_of_length_eq_zero h0
    subst hn
    cases h1
    exact run_convert_bytes_nil (P := Tryd.prog) w 120 5 Tryd.underlying120 Tryd.underlying5 _ _ 9 Tryd.underlying9
  · cases h0
    exact run_convert_bytes_back (P := Tryd.prog) w 120 9 5 ⟨g, 0, none⟩ c l Tryd.underlying120 Tryd.underlying5 Tryd.underlying9 (fun j hj => by
      have hp : (⟨g, 0, none⟩ : Addr).add j = ⟨g, j, none⟩ := by unfold Addr.add; split <;> simp_all
      have e := congrArg (fun l => l[j]?) h6
      rw [List.getElem?_take, if_pos (by omega)] at e
      rw [hp, Joins.cell_of_block h2, ← Array.getElem?_toList, e]
      unfold Lib.byteCells
      simp [hj])

theorem mfoByte0 : (Tryd.prog.info? 5).map (fun i => (i.zero, i.size, i.bytes)) = some (some (.int .u8 0), 1, 1) := by kernel_rfl
theorem mfoByte : ∃ i, Tryd.prog.info? 5 = some i ∧ i.zero = some (.int .u8 0) ∧ i.size = 1 ∧ i.bytes = 1 := by
  have h := mfoByte0
  cases hi : Tryd.prog.info? 5 with
  | none => rw [hi] at h; cases h
  | some i =>
    rw [hi] at h
    simp only [Option.map_some, Option.some.injEq, Prod.mk.injEq] at h
    exact ⟨i, rfl, h.1, h.2.1, h.2.2⟩
theorem numT_i64 {D : List (List UInt8)} (s : List UInt8) (h : D.length ≤ 1000000) : I64 (numT D s) := by
  have h1 := List.idxOf_le_length (l := D) (a := s)
  unfold numT
  constructor <;> omega
theorem own_tyG {base size n k : Nat} {t : TypeId} {v : Value} {xs : List Value} {w : World} (h : w.ownsRow base t size v n xs) (hk : v.ownBlock = some k) : ∃ vs, w.heap[k]? = some (.cells vs t (0, 0)) := by
  rcases h.2 with ⟨rfl, _⟩ | ⟨g, cap, cur, rfl, _, hc, _⟩
  · simp [Value.ownBlock] at hk
  · simp only [Value.ownBlock, Option.some.injEq] at hk
    subst hk
    exact ⟨cur, hc⟩
theorem own_neG {base size n base' size' n' : Nat} {t t' : TypeId} {v u : Value} {xs ys : List Value} {w : World} (h : w.ownsRow base t size v n xs) (h' : w.ownsRow base' t' size' u n' ys) (ht : t ≠ t') : v.ownBlock = none ∨ v.ownBlock ≠ u.ownBlock := by
  cases hq : v.ownBlock with
  | none => exact Or.inl rfl
  | some k =>
    refine Or.inr fun e => ?_
    obtain ⟨vs, hv⟩ := own_tyG h hq
    obtain ⟨vs', hv'⟩ := own_tyG h' e.symm
    rw [hv] at hv'
    injection hv' with hv'
    injection hv' with _ h1
    exact ht h1
theorem own_othersG {base size n : Nat} {t t' : TypeId} {v : Value} {xs : List Value} {w w' : World} (h : w.ownsRow base t size v n xs) (hk : Lib.OthersKept t' none w w') (ht : t ≠ t') : w'.ownsRow base t size v n xs := by
  obtain ⟨hl, h⟩ := h
  refine ⟨hl, ?_⟩
  rcases h with h | ⟨g, cap, cur, h0, h1, h2, h3⟩
  · exact .inl h
  · exact .inr ⟨g, cap, cur, h0, h1, hk g _ h2 (by simp) (fun c fz e => by injection e with _ e; exact ht e), h3⟩
theorem nmV_mts {w : World} {base : Nat} {q : Option Addr} {n c : Nat} {L : List Nat} (h : NmV w base (.slice q n c) L) : n = L.length ∧ n ≤ c ∧ MtsV q L.length (nmI L) w := by
  have e : L.map (fun x : Nat => intV (x : Int)) = (nmI L).map intV := by unfold nmI; rw [List.map_map]; rfl
  have hl : (nmI L).length = L.length := by unfold nmI; rw [List.length_map]
  unfold NmV at h
  rw [e, ← hl] at h
  obtain ⟨h1, h2, h3⟩ := ints_owns h
  rw [hl] at h1
  subst h1
  exact ⟨rfl, h2, h3⟩
theorem below_grownG {w w' : World} {b : Option Nat} (h : Below w.heap.size w w') : w.grownBy w' b := ⟨h.os, h.tape, h.output, h.size, fun k hk _ => h.block k hk⟩
def txJ (c : Int) (ks : Nat → Int) (L : List Nat) (j : Nat) : List UInt8 := itoB c ++ sepZ ((L.take j).map ks)
theorem txJ_step (c : Int) (ks : Nat → Int) (L : List Nat) (j : Nat) (h : j < L.length) : (txJ c ks L j ++ [32]) ++ itoB (ks (L.getD j 0)) = txJ c ks L (j + 1) := by
  unfold txJ
  rw [List.take_add_one, List.getElem?_eq_getElem h, List.getD, List.getElem?_eq_getElem h, List.map_append]
  simp only [Option.toList, List.map_cons, List.map_nil, Option.getD_some]
  rw [sepZ_snoc]
  simp
theorem txJ_len (c : Int) (ks : Nat → Int) (L : List Nat) (j : Nat) (hc : I64 c) (hz : ∀ j, j < L.length → I64 (ks (L.getD j 0))) (hl : L.length ≤ 900) : (txJ c ks L j).length ≤ 20000 := by
  have h1 := Lib.itoa_length_le c hc.1 hc.2
  have h2 := sepZ_len ((L.take j).map ks) (fun z h => by
    obtain ⟨x, hx, rfl⟩ := List.mem_map.1 h
    obtain ⟨i, hi, e⟩ := List.getElem_of_mem (List.mem_of_mem_take hx)
    have := hz i hi
    rw [List.getD, List.getElem?_eq_getElem hi] at this
    rw [← e]; exact this)
  unfold txJ
  rw [List.length_append]
  rw [List.length_map, List.length_take] at h2
  unfold itoB
  omega
set_option maxHeartbeats 8000000 in
set_option maxRecDepth 100000 in
theorem shortKey_any (f : Forest) (pb i b ci ck : Nat) (qi qk : Option Addr) (ks : Nat → Int) (D : List (List UInt8)) (k sp : Int) (n : ByteArray) (ats : List (ByteArray × ByteArray)) (tx : ByteArray) (kids : Forest) (v : Value) (w : World)
    (hp0 : w.cell? ⟨pb, 0, none⟩ = some (.slice qi f.count ci)) (hp1 : w.cell? ⟨pb, 1, none⟩ = some (.slice qk f.count ck)) (hi : ItC f qi w) (hk : RowC qk f.count ks w) (hki : KidOf f (i : Int) kids (i + 1)) (hm : NumM w b D) (ht : TabP w)
    (hv : NdV k sp n ats tx kids v w) (hs : SmF (.cons k sp n ats tx kids .nil)) (hr : RngF (.cons k sp n ats tx kids .nil)) (hz : ∀ x, x < f.count → I64 (ks x)) (hD : D.length ≤ 100000) (hc : f.count ≤ 900) :
    Calls Tryd.prog 70 #[.pointer (some ⟨pb, 0, none⟩), .int .i64 (i : Int), v, .map (some b)] w fun e w' => e = .returned (.string (bs (itoB (numT (addT D (ktL k sp n ats tx)) (ktL k sp n ats tx)) ++ sepZ ((nums kids (i + 1)).map ks)))) ∧ NumM w' b (addT D (ktL k sp n ats tx)) ∧ w.grownBy w' (some b) := by
  obtain ⟨i0, hi0, hi1, hi2, hi3⟩ := mfoByte
  obtain ⟨qa, ca, qk', ck', rfl, a1, a2, a3⟩ := hv
  unfold ndV
  have hs1 : SmF (.cons k sp n ats tx .nil .nil) := ⟨⟨hs.1.1, hs.1.2.1, hs.1.2.2.1, Nat.zero_le _⟩, trivial, trivial⟩
  have hr1 : RngF (.cons k sp n ats tx .nil .nil) := ⟨⟨hr.1.1, hr.1.2.1, trivial⟩, trivial⟩
  have hkl := keyF_lenK _ hr1 hs1
  have hk1 : (Forest.cons k sp n ats tx .nil .nil).count = 1 := rfl
  rw [hk1] at hkl
  have hbx : Below w.heap.size w (w.alloc (Obj.cells #[.int .i64 k, .int .i64 sp, .string n, .slice qa ats.length ca, .string tx, .slice none 0 0] 44)) := (Below.refl _ _).alloc (Nat.le_refl _) _
  have CK := hide (fun (W : World) (hW : Below w.heap.size w W) => key_any k sp n ats tx .nil (ndV k sp n qa ats.length ca tx none 0 0) W ⟨qa, ca, none, 0, rfl, a1.below hW, Or.inl rfl, Nat.le_refl _⟩ hs1 (itF_all (ht.below hW) _ hr1 hs1) (by decide) (by omega))
  have hsz : (bs (ktL k sp n ats tx)).size ≤ 9223372036854775807 := by
    show (bs (keyF _)).size ≤ _
    simp [bs, ByteArray.size]; omega
  have CN := hide (fun (W : World) (hW : NumM W b D) => nof_any b D (bs (ktL k sp n ats tx)) W hW hsz (by omega))
  rw [bs_toList] at CN
  have hD1 := addT_len D (ktL k sp n ats tx)
  have hci := numT_i64 (D := addT D (ktL k sp n ats tx)) (ktL k sp n ats tx) (by omega)
  have HM0 := hide hm
  have HNE0 := hide (hm.ne hp0)
  have HI := hide hi
  have HK := hide hk
  have HP0 := hide hp0
  have HP1 := hide hp1
  have HT := hide ht
  have HKI := hide hki
  have HZ := hide hz
  have HNB : Hid (∀ j, j < (nums kids (i + 1)).length → (nums kids (i + 1)).getD j 0 < f.count) := hide (fun j hj => (nums_at f kids (i + 1) j hki.lies (by rw [nums_len] at hj; exact hj)).1)
  have hnl : (nums kids (i + 1)).length ≤ 900 := by rw [nums_len]; have h1 := kids.len_count; have h2 := hki.lies.1; omega
  have CK' : Hid (∀ W, Below w.heap.size w W → Calls Tryd.prog 31 #[.agg #[.int .i64 k, .int .i64 sp, .string n, .slice qa ats.length ca, .string tx, .slice none 0 0]] W fun e w' => e = .returned (.string (bs (ktL k sp n ats tx))) ∧ Below W.heap.size W w') := CK
  have CKD := hide (fun (W : World) (hle : CellLe w W) => kids_any f kids pb (i + 1) (i : Int) qi ci W (hle _ _ _ hp0) (hi.le hle) hki hc)
  generalize hKT : ktL k sp n ats tx = KT at *
  generalize hD1 : addT D KT = D1 at *
  generalize numT D1 KT = c at *
  generalize hNM : nums kids (i + 1) = L at *
  obtain ⟨TT, hTT⟩ : ∃ TT, itoB c ++ sepZ (L.map ks) = TT := ⟨_, rfl⟩
  rw [hTT]
  have HTT := hide hTT
  clear CK a1 a2 a3 hTT hs hr hs1 hr1 hkl hk1 hsz hi hk hki hm ht hz hp0 hp1 hKT hD1
  generalize ats.length = al at *
  generalize kids.len = kl at *
  have HBX := hide hbx
  clear hbx
  go_enter Tryd.func70, Tryd.ntmps70
  go_wp2_with fail
  refine (unhide CK' _ (unhide HBX)).mono ?_
  rintro e w1 ⟨rfl, hb1⟩
  have HB1 := hide (tr2 (unhide HBX) hb1)
  have CN1 := hide (unhide CN w1 ((unhide HM0).later (unhide HB1)))
  clear hb1 CN CK'
  go_wp2_with fail
  refine (unhide CN1).mono ?_
  rintro e w2 ⟨rfl, hm2, hg2⟩
  have HG : Hid (w.grownBy w2 (some b)) := hide (grown_trans (below_grownG (unhide HB1)) hg2)
  have HLE : Hid (CellLe w w2) := hide (grown_le (unhide HM0) (unhide HG))
  have HT2 := hide ((unhide HT).grown (unhide HM0) (unhide HG))
  have HM2 := hide hm2
  have CA : Hid (∀ (W : World) (u : Value) (l : List UInt8) (z : Int), ByR W w2.heap.size u l → Below w2.heap.size w2 W → I64 z → l.length ≤ 30000 → Calls Tryd.prog 88 #[u, .int .i64 z, .int .i64 10] W fun e w' => ∃ v', e = .returned v' ∧ ByR w' w2.heap.size v' (l ++ itoB z) ∧ Below w2.heap.size W w' ∧ Lib.OthersKept 5 none W w') := hide (fun W u l z hu hW hz hl => by
    refine (Tryd.strconv_AppendInt_10 w2.heap.size l.length z hz.1 hz.2 u (Lib.byteCells l) W hu hW.size (by omega) ((Lib.tabBelow_of_tabIs (unhide HT2)).on hW)).mono ?_
    rintro e w' ⟨v', rfl, h1, h2, h3⟩
    refine ⟨v', rfl, ?_, h2, h3⟩
    unfold ByR
    rw [List.length_append, Lib.byteCells_append]
    exact h1)
  have CA0 := hide (unhide CA w2 (.slice none 0 0) [] c (by simpa [ByR, Lib.byteCells] using World.ownsRow_nil w2 w2.heap.size 5 1) (Below.refl _ _) hci (by simp))
  clear hm2 hg2 CN1 HB1 HT
  go_wp2_with fail
  refine (unhide CA0).mono ?_
  rintro e w3 ⟨u3, rfl, hu3, hb3, _⟩
  obtain ⟨q3, n3, d3, e3⟩ := slice_of hu3
  subst e3
  have HB3 := hide hb3
  have HU3 := hide hu3
  have CD := hide (unhide CKD w3 (CellLe.trans (unhide HLE) (below_cells hb3)))
  clear hu3 hb3 CA0 CKD
  go_wp2_with fail
  refine (unhide CD).mono ?_
  rintro e w4 ⟨u4, rfl, hu4, hb4⟩
  obtain ⟨q4, n4, d4, e4⟩ := slice_of hu4
  subst e4
  have hn4 := (nmV_mts hu4).1
  subst hn4
  have HB4 : Hid (Below w2.heap.size w2 w4) := hide ((unhide HB3).trans (hb4.mono (unhide HB3).size))
  have HU4 : Hid (NmV w4 w2.heap.size (.slice q4 L.length d4) L) := hide (owns_mono hu4 (unhide HB3).size)
  have HS4 : Hid (ByR w4 w2.heap.size (.slice q3 n3 d3) (txJ c ks L 0)) := hide (by
    have h := ownsRow_below (unhide HU3) hb4
    have e : txJ c ks L 0 = [] ++ itoB c := by simp [txJ, sepZ]
    rw [e]; exact h)
  have HTS := hide (txJ_step c ks L)
  have HTL := hide (fun j => txJ_len c ks L j hci (fun j hj => unhide HZ _ (unhide HNB j hj)) hnl)
  have HTE : Hid (txJ c ks L L.length = TT) := hide (by rw [← unhide HTT]; unfold txJ; rw [List.take_of_length_le (Nat.le_refl _)])
  clear hu4 hb4 CD HU3 HB3
  go_wp2
  go_loopw [22, 9] (fun x u wr => ∃ j : Nat, j ≤ L.length ∧ x = .int .i64 (j : Int) ∧ ByR wr w2.heap.size u (txJ c ks L j) ∧ NmV wr w2.heap.size (.slice q4 L.length d4) L ∧ Below w2.heap.size w2 wr) (fun x _ _ => L.length - (intOf x).toNat)
  case atStart => exact ⟨0, Nat.zero_le _, rfl, unhide HS4, unhide HU4, unhide HB4⟩
  case round =>
    clear HS4 HU4 HB4
    obtain ⟨j, hj, rfl, hu, hnv, hbl⟩ := hrel
    obtain ⟨q5, n5, d5, e5⟩ := slice_of hu
    subst e5
    have HU := hide hu
    have HN := hide hnv
    have HBL := hide hbl
    have hzl := hbl.size
    have htl := unhide HTL j
    by_cases hp : j < L.length
    · have hpi : (j : Int) < (L.length : Int) := by omega
      obtain ⟨hme1, hme2, hmv⟩ := nmV_mts hnv
      obtain ⟨hml, hmc⟩ := hmv
      clear hme1 hme2 hml
      obtain ⟨gs, os, hqs, hsc⟩ := hmc (by omega)
      have s0 := hsc j hp
      rw [nmI_at L j hp] at s0
      have hxb := unhide HNB j hp
      have hxi : ((L.getD j 0 : Nat) : Int) < (f.count : Int) := by omega
      have hz := unhide HZ _ hxb
      have hst := hide (unhide HTS j hp)
      obtain ⟨gk, hgk, hkc⟩ := (unhide HK).le (unhide HLE) (by omega)
      have k0 := hkc _ hxb
      have p1 := (unhide HLE) _ _ _ (unhide HP1)
      subst hgk
      have HK0 := hide k0
      have HP1b := hide p1
      generalize hx : L.getD j 0 = x at *
      clear hu hnv hbl hmc hsc hkc hx k0 p1 hxb
      cases hqs
      unfold ByR at HU
      go_wp2_with (at_builtin; refine wpList_append_own_at _ rfl _ _ 120 rfl w2.heap.size 5 i0 (.int .u8 0) 1 1 Tryd.underlying120 hi0 hi1 hi2 hi3 rfl (by decide) (.slice q5 n5 d5) _ _ rfl ((unhide HU).alloc _) ⟨wr.heap.size, 0, none⟩ 1 1 [.int .u8 32] rfl rfl ?c1 ?c2 ?c3 ?c4 ?c5 ?_)
      case c1 => exact cell_one_new _ _ _
      case c2 => simp [Value.oneCell']
      case c3 => simp only [maxLen]; omega
      case c4 => omega
      case c5 => first | omega | (simp; omega)
      intro u' w5 hown hgr _ _
      obtain ⟨q6, n6, d6, e6⟩ := slice_of hown
      subst e6
      have HU5 : Hid (ByR w5 w2.heap.size (.slice q6 n6 d6) (txJ c ks L j ++ [32])) := hide (by
        unfold ByR
        rw [List.length_append, Lib.byteCells_append]
        exact hown)
      have HN5 : Hid (NmV w5 w2.heap.size (.slice (some ⟨gs, os, none⟩) L.length d4) L) := hide (((unhide HN).alloc _).kept hgr (own_neG (unhide HN) (unhide HU) (by decide)))
      have HB5 : Hid (Below w2.heap.size w2 w5) := hide (((unhide HBL).alloc hzl _).grown hgr (by simp; omega) (fun q hq => ((unhide HU).lt q hq).1))
      have k0 := below_cells (unhide HB5) _ _ _ (unhide HK0)
      have p1 := below_cells (unhide HB5) _ _ _ (unhide HP1b)
      have CA5 := hide (unhide CA w5 (.slice q6 n6 d6) (txJ c ks L j ++ [32]) (ks x) (unhide HU5) (unhide HB5) hz (by rw [List.length_append]; simp; omega))
      clear hown hgr HU HN HBL s0 HU5
      go_wp2_with fail
      refine (unhide CA5).mono ?_
      rintro e w6 ⟨u7, rfl, hu7, hb7, ho7⟩
      have HU7 : Hid (ByR w6 w2.heap.size u7 (txJ c ks L (j + 1))) := hide (by rw [← unhide hst]; exact hu7)
      have HN7 : Hid (NmV w6 w2.heap.size (.slice (some ⟨gs, os, none⟩) L.length d4) L) := hide (own_othersG (unhide HN5) ho7 (by decide))
      have HB7 := hide ((unhide HB5).trans hb7)
      clear hu7 hb7 ho7 CA5 HN5 HB5 k0 p1
      go_wp2
      go_roundw
      case rel => exact ⟨j + 1, by omega, by go_num, unhide HU7, unhide HN7, unhide HB7⟩
      case measure => simp [intOf]; omega
    · have hje : j = L.length := by omega
      subst hje
      have hpi : ¬ ((L.length : Nat) : Int) < ((L.length : Nat) : Int) := by omega
      rw [unhide HTE] at HU
      have hcv := byR_str (unhide HU)
      have HMF := hide ((unhide HM2).later hbl)
      have HGF := hide (grown_below (unhide HG) (hbl.mono (unhide HG).size))
      clear hu hnv hbl htl
      go_wp2
      go_ret
      exact ⟨rfl, unhide HMF, unhide HGF⟩
end Go.Proofs.YtbabmkilbbbmoaaDoor

/-
  What match's 'newPage' does: plain facts, and what holds in its loop.
-/
namespace Go.Proofs.YtbabmkilbbbmoaaDoor
open Go.RowKit Go.Maps
set_option linter.unusedVariables false
set_option linter.unusedSimpArgs false

theorem smF_at : ∀ (f : Forest) (x : Nat), SmF f → SmF (atP f x)
  | .nil, x, _ => trivial
  | .cons k sp n ats tx kids rest, 0, h => h
  | .cons k sp n ats tx kids rest, x + 1, h => by
    by_cases hx : x < kids.count
    · rw [atP_kid hx]; exact smF_at kids x h.2.1
    · rw [atP_rest (by omega)]; exact smF_at rest _ h.2.2
theorem rngF_at : ∀ (f : Forest) (x : Nat), RngF f → RngF (atP f x)
  | .nil, x, _ => trivial
  | .cons k sp n ats tx kids rest, 0, h => h
  | .cons k sp n ats tx kids rest, x + 1, h => by
    by_cases hx : x < kids.count
    · rw [atP_kid hx]; exact rngF_at kids x h.1.2.2
    · rw [atP_rest (by omega)]; exact rngF_at rest _ h.2
def updI (g : Nat → Int) (i : Nat) (z : Int) (x : Nat) : Int := if x = i then z else g x
theorem pgF_step {D : List (List UInt8)} {f : Forest} {i : Nat} {ks ls : Nat → Int} (h : PgF D f (i + 1) ks ls) {k sp : Int} {n : ByteArray} {ats : List (ByteArray × ByteArray)} {tx : ByteArray} {kids r : Forest} (e : atP f i = .cons k sp n ats tx kids r) {D1 D2 D3 : List (List UInt8)} {s : List UInt8}
    (h1 : addT D (ktL k sp n ats tx) = D1) (hs : itoB (numT D1 (ktL k sp n ats tx)) ++ sepZ ((nums kids (i + 1)).map ks) = s) (h2 : addT D1 s = D2) (h3 : addT D2 (labelB k sp n) = D3) :
    PgF D3 f i (updI ks i (numT D2 s)) (updI ls i (numT D3 (labelB k sp n))) ∧ D <+: D3 ∧ D3.length ≤ D.length + 3 := by
  have p1 : D <+: D1 := by rw [← h1]; exact addT_pre _ _
  have p2 : D1 <+: D2 := by rw [← h2]; exact addT_pre _ _
  have p3 : D2 <+: D3 := by rw [← h3]; exact addT_pre _ _
  have m1 : ktL k sp n ats tx ∈ D1 := by rw [← h1]; exact addT_mem _ _
  have m2 : s ∈ D2 := by rw [← h2]; exact addT_mem _ _
  have m3 : labelB k sp n ∈ D3 := by rw [← h3]; exact addT_mem _ _
  have l1 := addT_len D (ktL k sp n ats tx)
  have l2 := addT_len D1 s
  have l3 := addT_len D2 (labelB k sp n)
  rw [h1] at l1
  rw [h2] at l2
  rw [h3] at l3
  refine ⟨fun x hx hxc => ?_, p1.trans (p2.trans p3), by omega⟩
  by_cases hxi : x = i
  · subst hxi
    obtain ⟨n1, n2⟩ := atP_next f x e
    have hin := pgF_in h n1 (Nat.le_refl _)
    have e1 := sepZ_kids h kids (x + 1) n1 (Nat.le_refl _)
    have q1 := shF_pre p1 kids hin
    have q3 := shF_pre (p1.trans (p2.trans p3)) kids hin
    have hsh : s = sh1 D3 k sp n ats tx kids := by
      rw [← hs, e1]
      unfold sh1
      rw [q3.1, sepK_pre (p1.trans (p2.trans p3)) _ (shF_mem kids hin), numT_pre (p2.trans p3) m1]
    rw [e]
    refine ⟨⟨(p2.trans p3).subset m1, by rw [← hsh]; exact p3.subset m2, m3⟩, ?_, ?_⟩
    · unfold updI
      rw [if_pos rfl]
      show _ = numT D3 (sh1 D3 k sp n ats tx kids)
      rw [← hsh, numT_pre p3 m2]
    · unfold updI
      rw [if_pos rfl]
      rfl
  · have := (h.pre (p1.trans (p2.trans p3))) x (by omega) hxc
    unfold updI
    rw [if_neg hxi, if_neg hxi]
    exact this
/-- A page in memory, read. -/
def PgC (pb : Nat) (f : Forest) (ks ls : Nat → Int) (W : World) : Prop := ∃ qi ci qk ck ql cl, W.cell? ⟨pb, 0, none⟩ = some (.slice qi f.count ci) ∧ W.cell? ⟨pb, 1, none⟩ = some (.slice qk f.count ck) ∧ W.cell? ⟨pb, 2, none⟩ = some (.slice ql f.count cl) ∧ ItC f qi W ∧ RowC qk f.count ks W ∧ RowC ql f.count ls W
theorem PgC.le {pb : Nat} {f : Forest} {ks ls : Nat → Int} {W W' : World} (h : PgC pb f ks ls W) (hc : CellLe W W') : PgC pb f ks ls W' := by
  obtain ⟨qi, ci, qk, ck, ql, cl, h1, h2, h3, h4, h5, h6⟩ := h
  exact ⟨qi, ci, qk, ck, ql, cl, hc _ _ _ h1, hc _ _ _ h2, hc _ _ _ h3, h4.le hc, h5.le hc, h6.le hc⟩
theorem NumM.of_block {w w' : World} {b : Nat} {D : List (List UInt8)} (h : NumM w b D) (e : w'.heap[b]? = w.heap[b]?) : NumM w' b D := by
  obtain ⟨d, ⟨es, clock, h1, r⟩, h2⟩ := h
  exact ⟨d, ⟨es, clock, e.trans h1, r⟩, h2⟩
/-- What lies in memory ahead of a round. -/
structure SnM (f : Forest) (w : World) (b pb gk gl gn ci : Nat) (qi : Option Addr) (ps : Nat → Value) (D : List (List UInt8)) (ks ls : Nat → Int) (W : World) : Prop where
  nm : NumM W b D
  kb : Blk W pb #[.slice qi f.count ci, .slice (some ⟨gk, 0, none⟩) f.count f.count, .slice (some ⟨gl, 0, none⟩) f.count f.count] 79
  rk : W.rowIs gk 3 f.count (fun x => .int .i64 (ks x))
  rl : W.rowIs gl 3 f.count (fun x => .int .i64 (ls x))
  it : ItC f qi W
  pt : ∀ x, x < f.count → W.cell? ⟨gn, x, none⟩ = some (ps x)
  gr : w.grownBy W (some b)
/-- Blocks that lie apart. -/
structure Apt (w : World) (b pb gk gl gn : Nat) (qi : Option Addr) (n : Nat) : Prop where
  b0 : b < w.heap.size
  p0 : w.heap.size ≤ pb
  k0 : w.heap.size ≤ gk
  l0 : w.heap.size ≤ gl
  kl : gk ≠ gl
  kp : gk ≠ pb
  lp : gl ≠ pb
  kn : gn ≠ gk
  ln : gn ≠ gl
  ki : ∀ g o, qi = some ⟨g, o, none⟩ → 0 < n → g ≠ gk ∧ g ≠ gl
theorem SnM.grown {f : Forest} {w : World} {b pb gk gl gn ci : Nat} {qi : Option Addr} {ps : Nat → Value} {D D' : List (List UInt8)} {ks ls : Nat → Int} {W W' : World} (h : SnM f w b pb gk gl gn ci qi ps D ks ls W) (ha : Apt w b pb gk gl gn qi f.count) (hg : W.grownBy W' (some b)) (hn : NumM W' b D') :
    SnM f w b pb gk gl gn ci qi ps D' ks ls W' := by
  have hle := grown_le h.nm hg
  have b0 := ha.b0
  have p0 := ha.p0
  have k0 := ha.k0
  have l0 := ha.l0
  exact ⟨hn, blk_grown h.kb hg (fun e => by cases e; omega), h.rk.of_block (hg.block gk h.rk.lt (fun e => by cases e; omega)), h.rl.of_block (hg.block gl h.rl.lt (fun e => by cases e; omega)), h.it.le hle, fun x hx => hle _ _ _ (h.pt x hx), grown_trans h.gr hg⟩
theorem set_le {W : World} {g i : Nat} {v : Value} {f : Forest} {qi : Option Addr} (hne : ∀ g' o, qi = some ⟨g', o, none⟩ → 0 < f.count → g' ≠ g) (h : ItC f qi W) : ItC f qi (W.setCell ⟨g, i, none⟩ v) := fun h0 => by
  obtain ⟨g', hq, hc⟩ := h h0
  have hg := hne g' 0 hq h0
  have cc : ∀ o u, W.cell? ⟨g', o, none⟩ = some u → (W.setCell ⟨g, i, none⟩ v).cell? ⟨g', o, none⟩ = some u := fun o u hu => by
    have he := Below.heap_setCell W ⟨g, i, none⟩ v g' hg
    unfold World.cell? at hu ⊢
    simp only [he]
    exact hu
  exact ⟨g', hq, fun x y hx => ⟨cc _ _ (hc x y hx).1, cc _ _ (hc x y hx).2.1, cc _ _ (hc x y hx).2.2.1, cc _ _ (hc x y hx).2.2.2.1, cc _ _ (hc x y hx).2.2.2.2⟩⟩
theorem set_cell_ne {W : World} {g i g' o : Nat} {v u : Value} (hg : g' ≠ g) (hu : W.cell? ⟨g', o, none⟩ = some u) : (W.setCell ⟨g, i, none⟩ v).cell? ⟨g', o, none⟩ = some u := by
  have he := Below.heap_setCell W ⟨g, i, none⟩ v g' hg
  unfold World.cell? at hu ⊢
  simp only [he]
  exact hu
theorem set_grown {w W : World} {b : Option Nat} {g i : Nat} {v : Value} (h : w.grownBy W b) (hg : w.heap.size ≤ g) : w.grownBy (W.setCell ⟨g, i, none⟩ v) b :=
  ⟨h.os, h.tape, h.output, by simpa using h.size, fun k hk hne => (Below.heap_setCell W ⟨g, i, none⟩ v k (by show k ≠ g; omega)).trans (h.block k hk hne)⟩
theorem SnM.setK {f : Forest} {w : World} {b pb gk gl gn ci : Nat} {qi : Option Addr} {ps : Nat → Value} {D : List (List UInt8)} {ks ls : Nat → Int} {W : World} (h : SnM f w b pb gk gl gn ci qi ps D ks ls W) (ha : Apt w b pb gk gl gn qi f.count) (i : Nat) (z : Int) :
    SnM f w b pb gk gl gn ci qi ps D (updI ks i z) ls (W.setCell ⟨gk, i, none⟩ (.int .i64 z)) := by
  have b0 := ha.b0
  have k0 := ha.k0
  have hbk : b ≠ gk := by omega
  refine ⟨h.nm.of_block (Below.heap_setCell W ⟨gk, i, none⟩ _ b hbk), h.kb.away ha.kp.symm _, (h.rk.set i _).congr (fun x hx => ?_), h.rl.setOther (a := ⟨gk, i, none⟩) (fun e => ha.kl e.symm) _, set_le (fun g o e h0 => (ha.ki g o e h0).1) h.it, fun x hx => set_cell_ne ha.kn (h.pt x hx), set_grown h.gr k0⟩
  unfold updI
  split <;> rfl
theorem SnM.setL {f : Forest} {w : World} {b pb gk gl gn ci : Nat} {qi : Option Addr} {ps : Nat → Value} {D : List (List UInt8)} {ks ls : Nat → Int} {W : World} (h : SnM f w b pb gk gl gn ci qi ps D ks ls W) (ha : Apt w b pb gk gl gn qi f.count) (i : Nat) (z : Int) :
    SnM f w b pb gk gl gn ci qi ps D ks (updI ls i z) (W.setCell ⟨gl, i, none⟩ (.int .i64 z)) := by
  have b0 := ha.b0
  have l0 := ha.l0
  have hbl : b ≠ gl := by omega
  refine ⟨h.nm.of_block (Below.heap_setCell W ⟨gl, i, none⟩ _ b hbl), h.kb.away ha.lp.symm _, h.rk.setOther (a := ⟨gl, i, none⟩) ha.kl _, (h.rl.set i _).congr (fun x hx => ?_), set_le (fun g o e h0 => (ha.ki g o e h0).2) h.it, fun x hx => set_cell_ne ha.ln (h.pt x hx), set_grown h.gr l0⟩
  unfold updI
  split <;> rfl
theorem SnM.drew {f : Forest} {w : World} {b pb gk gl gn ci : Nat} {qi : Option Addr} {ps : Nat → Value} {D : List (List UInt8)} {ks ls : Nat → Int} {W : World} (h : SnM f w b pb gk gl gn ci qi ps D ks ls W) (ha : Apt w b pb gk gl gn qi f.count) : SnM f w b pb gk gl gn ci qi ps D ks ls W.drew :=
  h.grown ha (below_grownG (below_draws W 1)) (h.nm.later (below_draws W 1))
/-- What a round's regions read. -/
def KpH (pb pg gX gn i gp op n : Nat) (k sp : Int) (nm : ByteArray) (qa : Option Addr) (al ca : Nat) (tx : ByteArray) (qk : Option Addr) (kl ck : Nat) (W : World) : Prop :=
  W.cell? ⟨pb, pg, none⟩ = some (.slice (some ⟨gX, 0, none⟩) n n) ∧ W.cell? ⟨gn, i, none⟩ = some (.pointer (some ⟨gp, op, none⟩)) ∧ W.cell? ⟨gp, op, none⟩ = some (.int .i64 k) ∧ W.cell? ⟨gp, op + 1, none⟩ = some (.int .i64 sp) ∧ W.cell? ⟨gp, op + 2, none⟩ = some (.string nm) ∧ W.cell? ⟨gp, op + 3, none⟩ = some (.slice qa al ca) ∧ W.cell? ⟨gp, op + 4, none⟩ = some (.string tx) ∧ W.cell? ⟨gp, op + 5, none⟩ = some (.slice qk kl ck)
theorem KpH.le {pb pg gX gn i gp op n : Nat} {k sp : Int} {nm : ByteArray} {qa : Option Addr} {al ca : Nat} {tx : ByteArray} {qk : Option Addr} {kl ck : Nat} {W W' : World} (h : KpH pb pg gX gn i gp op n k sp nm qa al ca tx qk kl ck W) (hc : CellLe W W') : KpH pb pg gX gn i gp op n k sp nm qa al ca tx qk kl ck W' :=
  ⟨hc _ _ _ h.1, hc _ _ _ h.2.1, hc _ _ _ h.2.2.1, hc _ _ _ h.2.2.2.1, hc _ _ _ h.2.2.2.2.1, hc _ _ _ h.2.2.2.2.2.1, hc _ _ _ h.2.2.2.2.2.2.1, hc _ _ _ h.2.2.2.2.2.2.2⟩
theorem KpH.set {pb pg gX gn i gp op n : Nat} {k sp : Int} {nm : ByteArray} {qa : Option Addr} {al ca : Nat} {tx : ByteArray} {qk : Option Addr} {kl ck : Nat} {W : World} (h : KpH pb pg gX gn i gp op n k sp nm qa al ca tx qk kl ck W) {g j : Nat} {v : Value} (h1 : pb ≠ g) (h2 : gn ≠ g) (h3 : gp ≠ g) : KpH pb pg gX gn i gp op n k sp nm qa al ca tx qk kl ck (W.setCell ⟨g, j, none⟩ v) :=
  ⟨set_cell_ne h1 h.1, set_cell_ne h2 h.2.1, set_cell_ne h3 h.2.2.1, set_cell_ne h3 h.2.2.2.1, set_cell_ne h3 h.2.2.2.2.1, set_cell_ne h3 h.2.2.2.2.2.1, set_cell_ne h3 h.2.2.2.2.2.2.1, set_cell_ne h3 h.2.2.2.2.2.2.2⟩
end Go.Proofs.YtbabmkilbbbmoaaDoor
