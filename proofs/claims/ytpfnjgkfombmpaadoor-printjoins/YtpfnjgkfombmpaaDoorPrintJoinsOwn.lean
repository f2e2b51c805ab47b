/-
  For every two lists of nodes the law PrintJoins answers true: the text of two lists, one behind the other, is their texts, one behind the other; the two tables of the package utf start as the program's text lays them (the card ties them); and each argument reads as it did.
-/
import Derived.Test.YtpfnjgkfombmpaaDoorJPa
import Derived.Laws.OwnMore
import Derived.Test.YtpfnjgkfombmpaaDoorMgA
import Derived.Deep.SlicePairs
import Derived.Deep.Strs
import Derived.Carry
import Derived.OpenShut
import Derived.Test.YtpfnjgkfombmpaaDoorCards
import Derived.Test.YtpfnjgkfombmpaaDoorTie
import Derived.ProofKit
import Derived.ShutString
import Derived.ChangeOld
import Derived.Below
import Derived.Deep.DeepHandedRow
import Derived.Lib.LaidTab

/-
  Two lists of nodes, one behind the other.
-/
namespace Go.Proofs.YtpfnjgkfombmpaaDoor
open Go.RowKit
set_option linter.unusedVariables false
set_option linter.unusedSimpArgs false

def appJ : Forest → Forest → Forest
  | .nil, g => g
  | .cons k sp n ats tx kids r, g => .cons k sp n ats tx kids (appJ r g)
theorem appJ_len : ∀ (f g : Forest), (appJ f g).len = f.len + g.len
  | .nil, g => by show g.len = 0 + g.len; omega
  | .cons k sp n ats tx kids r, g => by show (appJ r g).len + 1 = r.len + 1 + g.len; rw [appJ_len r g]; omega
theorem appJ_count : ∀ (f g : Forest), (appJ f g).count = f.count + g.count
  | .nil, g => by show g.count = 0 + g.count; omega
  | .cons k sp n ats tx kids r, g => by show 1 + kids.count + (appJ r g).count = 1 + kids.count + r.count + g.count; rw [appJ_count r g]; omega
theorem appJ_sm : ∀ (f g : Forest), SmF f → SmF g → SmF (appJ f g)
  | .nil, g, _, h => h
  | .cons k sp n ats tx kids r, g, h, h' => ⟨h.1, h.2.1, appJ_sm r g h.2.2 h'⟩
theorem appJ_tx : ∀ (f g : Forest) (raw : Bool), txF (appJ f g) raw = txF f raw ++ txF g raw
  | .nil, g, raw => rfl
  | .cons k sp n ats tx kids r, g, raw => by
    rw [appJ, txF, appJ_tx r g raw, txF]
    simp only [List.append_assoc]
theorem lies_appJ {w : World} {b : Nat} : ∀ (f g : Forest) (o : Nat), Lies f b o w → Lies g b (o + f.len * 6) w → Lies (appJ f g) b o w
  | .nil, g, o, _, h => by have h2 : Lies g b (o + 0 * 6) w := h; rw [Nat.zero_mul, Nat.add_zero] at h2; exact h2
  | .cons k sp n ats tx kids r, g, o, h, h' => by
    refine ⟨h.1, lies_appJ r g (o + 6) h.2 ?_⟩
    have : o + (Forest.cons k sp n ats tx kids r).len * 6 = o + 6 + r.len * 6 := by simp [Forest.len]; omega
    rw [this] at h'
    exact h'
/-- Nodes' cells; wherever these lie later there lie the nodes. -/
theorem lies_cellsJ {w : World} {g : Nat} : ∀ (f : Forest) (o : Nat), Lies f g o w → ∃ xs : List Value, xs.length = f.len * 6 ∧ (∀ j u, xs[j]? = some u → w.cell? ⟨g, o + j, none⟩ = some u) ∧ (∀ u ∈ xs, u.oneCell' = true) ∧ ∀ W g' o', Below w.heap.size w W → (∀ j u, xs[j]? = some u → W.cell? ⟨g', o' + j, none⟩ = some u) → Lies f g' o' W
  | .nil, o, _ => ⟨[], rfl, (fun j u h => by simp at h), (fun u h => by cases h), fun W g' o' _ _ => trivial⟩
  | .cons k sp n ats tx kids rest, o, h => by
    obtain ⟨⟨h0, h1, h2, ⟨qa, ca, h3, h3'⟩, h4, ⟨qk, ck, h5, h6, h7⟩⟩, hr⟩ := h
    obtain ⟨xs, x1, x2, x3, x4⟩ := lies_cellsJ rest (o + 6) hr
    refine ⟨.int .i64 k :: .int .i64 sp :: .string n :: .slice qa ats.length ca :: .string tx :: .slice qk kids.len ck :: xs, by simp [x1, Forest.len]; omega, fun j u hj => ?_, fun u hu => ?_, fun W g' o' hb hc => ?_⟩
    · match j, hj with
      | 0, hj => simp at hj; rw [← hj]; exact h0
      | 1, hj => simp at hj; rw [← hj]; exact h1
      | 2, hj => simp at hj; rw [← hj]; exact h2
      | 3, hj => simp at hj; rw [← hj]; exact h3
      | 4, hj => simp at hj; rw [← hj]; exact h4
      | 5, hj => simp at hj; rw [← hj]; exact h5
      | j + 6, hj =>
        have := x2 j u (by simpa using hj)
        rw [show o + (j + 6) = o + 6 + j by omega]; exact this
    · simp only [List.mem_cons] at hu
      rcases hu with rfl | rfl | rfl | rfl | rfl | rfl | hu
      · rfl
      · rfl
      · rfl
      · rfl
      · rfl
      · rfl
      · exact x3 u hu
    · refine ⟨⟨hc 0 _ rfl, hc 1 _ rfl, hc 2 _ rfl, ⟨qa, ca, hc 3 _ rfl, h3'.below hb⟩, hc 4 _ rfl, ⟨qk, ck, hc 5 _ rfl, h6, ?_⟩⟩, x4 W g' (o' + 6) hb (fun j u hj => ?_)⟩
      · rcases h7 with h7 | ⟨g1, o1, hq, hl⟩
        · exact Or.inl h7
        · exact Or.inr ⟨g1, o1, hq, hl.below hb⟩
      · have := hc (j + 6) u (by simpa using hj)
        rw [show o' + 6 + j = o' + (j + 6) by omega]; exact this
theorem infoNodeJ : (Tryd.prog.info? 31).map (fun i => (i.zero, i.size, i.bytes)) = some (some (.agg #[.int .i64 0, .int .i64 0, .string ⟨#[]⟩, .slice none 0 0, .string ⟨#[]⟩, .slice none 0 0]), 6, 96) := by kernel_rfl
theorem addJ (g o j : Nat) : (⟨g, o, none⟩ : Addr).add j = ⟨g, o + j, none⟩ := by unfold Addr.add; split <;> simp_all
/-- append of nodes to a row of one's own. -/
theorem append_nodes (w0 w : World) (base : Nat) (v : Value) (n : Nat) (xs : List Value) (f : Forest) (q : Option Addr) (cap : Nat) (hown : w.ownsRow base 31 6 v n xs) (hf : Fo q f w0) (hb : Below w0.heap.size w0 w) (hn : n + f.len ≤ 1000000) (hbase : base ≤ w.heap.size) :
    ∃ ys v' w', (Builtin.append_ #[22, 22] 22 #[v, .slice q f.len cap]).run Tryd.prog w = .ok v' w' ∧ w'.ownsRow base 31 6 v' (n + f.len) (xs ++ ys) ∧ w.grownBy w' v.ownBlock ∧ ys.length = f.len * 6 ∧ ∀ W g' o', Below w0.heap.size w0 W → (∀ j u, ys[j]? = some u → W.cell? ⟨g', o' + j, none⟩ = some u) → Lies f g' o' W := by
  obtain ⟨i0, hi0, hi1, hi2, hi3⟩ := info_parts infoNodeJ
  cases q with
  | none =>
    have h0 : f = .nil := by
      rcases hf with h | ⟨g, o, h, _⟩
      · exact h
      · cases h
    subst h0
    refine ⟨[], v, w, ?_, by simpa [Forest.len] using hown, World.grownBy.refl _ _, rfl, fun W g' o' _ _ => trivial⟩
    rcases hown.2 with ⟨rfl, rfl⟩ | ⟨g, cap', cur, rfl, _, _, hnc, _⟩
    · simp [Builtin.append_, run_underlying Tryd.underlying22, sizeOf, typeInfo, hi0, Builtin.lenOf, Builtin.firstCells, Forest.len]
    · simp [Builtin.append_, run_underlying Tryd.underlying22, sizeOf, typeInfo, hi0, Builtin.lenOf, Builtin.firstCells, hnc, storeCells, Forest.len]
  | some ad =>
    obtain ⟨ys, y1, y2, y3, y4⟩ : ∃ ys : List Value, ys.length = f.len * 6 ∧ (∀ j u, ys[j]? = some u → w.cell? (ad.add j) = some u) ∧ (∀ u ∈ ys, u.oneCell' = true) ∧ ∀ W g' o', Below w0.heap.size w0 W → (∀ j u, ys[j]? = some u → W.cell? ⟨g', o' + j, none⟩ = some u) → Lies f g' o' W := by
      rcases hf with h | ⟨g, o, h, hl⟩
      · subst h; exact ⟨[], rfl, (fun j u h => by simp at h), (fun u h => by cases h), fun W g' o' _ _ => trivial⟩
      · injection h with h
        subst h
        obtain ⟨ys, y1, y2, y3, y4⟩ := lies_cellsJ f o hl
        exact ⟨ys, y1, fun j u hj => by rw [addJ]; exact cell_later hb (y2 j u hj), y3, y4⟩
    obtain ⟨v', w', h1, h2, h3, _⟩ := run_append_own (P := Tryd.prog) w base 22 22 31 i0 (.agg #[.int .i64 0, .int .i64 0, .string ⟨#[]⟩, .slice none 0 0, .string ⟨#[]⟩, .slice none 0 0]) 6 96 Tryd.underlying22 hi0 hi1 hi2 hi3 rfl (by decide) v n xs hown ad f.len cap ys y1 y2 y3 (by unfold maxLen; omega) (by omega) hbase
    exact ⟨ys, v', w', h1, h2, h3, y1, y4⟩
theorem fo_joined {w0 w : World} {base : Nat} {v : Value} {f g : Forest} {xs ys : List Value} (hown : w.ownsRow base 31 6 v (f.len + g.len) (xs ++ ys)) (hl : xs.length = f.len * 6) (hb : Below w0.heap.size w0 w)
    (hx : ∀ W g' o', Below w0.heap.size w0 W → (∀ j u, xs[j]? = some u → W.cell? ⟨g', o' + j, none⟩ = some u) → Lies f g' o' W) (hy : ∀ W g' o', Below w0.heap.size w0 W → (∀ j u, ys[j]? = some u → W.cell? ⟨g', o' + j, none⟩ = some u) → Lies g g' o' W) :
    ∃ q cap, v = .slice q (appJ f g).len cap ∧ (appJ f g).len ≤ cap ∧ Fo q (appJ f g) w := by
  obtain ⟨a, cap, hv⟩ := slice_n hown
  subst hv
  rw [appJ_len]
  rcases hown.2 with ⟨h1, h0⟩ | ⟨b, cap', cur, h1, hb', h2, h3, _⟩
  · refine ⟨a, cap, rfl, by omega, Or.inl ?_⟩
    have := appJ_len f g
    cases hc : appJ f g with
    | nil => rfl
    | cons _ _ _ _ _ _ r => rw [hc] at this; simp [Forest.len] at this; omega
  · injection h1 with h4 h5 h6
    subst h4 h6
    refine ⟨_, _, rfl, h3, Or.inr ⟨b, 0, rfl, lies_appJ f g 0 (hx w b 0 hb fun j u hj => ?_) (hy w b _ hb fun j u hj => ?_)⟩⟩
    · have hj' : (xs ++ ys)[j]? = some u := by rw [List.getElem?_append_left (List.getElem?_eq_some_iff.1 hj).1]; exact hj
      have := hown.cells (g := b) rfl j u hj'
      rw [addJ] at this
      exact this
    · have hj' : (xs ++ ys)[f.len * 6 + j]? = some u := by rw [List.getElem?_append_right (by omega), hl, show f.len * 6 + j - f.len * 6 = j by omega]; exact hj
      have := hown.cells (g := b) rfl _ u hj'
      rw [addJ, Nat.zero_add] at this
      rw [Nat.zero_add]; exact this
end Go.Proofs.YtpfnjgkfombmpaaDoor

/-
  The law PrintJoins (made by mk_ljj.py).
-/
namespace Go.Proofs.YtpfnjgkfombmpaaDoor
open Go.RowKit
set_option linter.unusedVariables false
set_option linter.unusedSimpArgs false

set_option maxHeartbeats 2000000 in
set_option maxRecDepth 100000 in
theorem joins_walk (f g : Forest) (qa qb : Option Addr) (ca cb : Nat) (w : World) (ht : Tabs w) (hm : MxJ w) (hf : Fo qa f w) (hg : Fo qb g w) (hca : f.len ≤ ca) (hcb : g.len ≤ cb) :
    Calls Tryd.prog 6 #[.slice qa f.len ca, .slice qb g.len cb] w fun e w' => e = .returned (.bool true) ∧ Below w.heap.size w w' := by
  have CL := hide (large13_any f qa ca w hf)
  have CM := hide (fun (W : World) (hW : Below w.heap.size w W) => large13_any g qb cb W (hg.below hW))
  have CP := hide (fun (W : World) (hW : Below w.heap.size w W) => para_any W (ht.below hW) (hm.below hW))
  obtain ⟨lb, lN, hlg⟩ : ∃ lb lN, lgT 1 f 800 = (lb, lN) := ⟨_, _, rfl⟩
  obtain ⟨mb, mN, hmg⟩ : ∃ lb lN, lgT 1 g 800 = (lb, lN) := ⟨_, _, rfl⟩
  rw [hlg] at CL
  rw [hmg] at CM
  dsimp only at CL CM
  cases lb with
  | true =>
    generalize f.len = fl at *
    generalize g.len = gl at *
    clear hf hg ht hm hlg hmg hca hcb CM
    go_enter Tryd.func6, Tryd.ntmps6
    go_wp2_with fail
    refine (unhide CL).mono ?_
    rintro e w1 ⟨rfl, hb⟩
    have HB' := hide hb
    clear CL hb
    have HB := HB'
    clear HB'
    have C1 := hide (unhide CP w1 (unhide HB))
    clear CP
    go_wp2_with fail
    refine (unhide C1).mono ?_
    rintro e w2 ⟨rfl, hb⟩
    have HB' := hide (tr2 (unhide HB) hb)
    clear HB C1 hb
    have HB := HB'
    clear HB'
    go_wp2
    go_ret
    exact ⟨rfl, unhide HB⟩
  | false =>
    cases mb with
    | true =>
      generalize f.len = fl at *
      generalize g.len = gl at *
      clear hf hg ht hm hlg hmg hca hcb
      go_enter Tryd.func6, Tryd.ntmps6
      go_wp2_with fail
      refine (unhide CL).mono ?_
      rintro e w1 ⟨rfl, hb⟩
      have HB' := hide hb
      clear CL hb
      have HB := HB'
      clear HB'
      have C1 := hide (unhide CM w1 (unhide HB))
      clear CM
      go_wp2_with fail
      refine (unhide C1).mono ?_
      rintro e w2 ⟨rfl, hb⟩
      have HB' := hide (tr2 (unhide HB) hb)
      clear HB C1 hb
      have HB := HB'
      clear HB'
      have C2 := hide (unhide CP w2 (unhide HB))
      clear CP
      go_wp2_with fail
      refine (unhide C2).mono ?_
      rintro e w3 ⟨rfl, hb⟩
      have HB' := hide (tr2 (unhide HB) hb)
      clear HB C2 hb
      have HB := HB'
      clear HB'
      go_wp2
      go_ret
      exact ⟨rfl, unhide HB⟩
    | false =>
      obtain ⟨hs, hn⟩ := lgT_small (by omega) hlg
      have hr := lgT_room 1 f 800 lN hlg
      obtain ⟨hs', hn'⟩ := lgT_small (by omega) hmg
      have hr' := lgT_room 1 g 800 mN hmg
      have hc : f.count ≤ 800 := by omega
      have hc' : g.count ≤ 800 := by omega
      have hfl := f.len_count
      have hgl := g.len_count
      have HF := hide (And.intro hf hg)
      have hss := appJ_sm f g hs hs'
      have hcc := appJ_count f g
      have hll := appJ_len f g
      have CA := hide (fun (W : World) (hW : Below w.heap.size w W) => ptext_any f qa ca W (ht.below hW) (hf.below hW) hs hca (by omega))
      have CB := hide (fun (W : World) (hW : Below w.heap.size w W) => ptext_any g qb cb W (ht.below hW) (hg.below hW) hs' hcb (by omega))
      have CC := hide (fun (W : World) (hW : Below w.heap.size w W) q c (hc : (appJ f g).len ≤ c) (hfo : Fo q (appJ f g) W) => ptext_any (appJ f g) q c W (ht.below hW) hfo hss hc (by omega))
      have DA := hide (fun (W : World) (hW : Below w.heap.size w W) => psize_any f qa ca W (ht.below hW) (hf.below hW) hs hca (by omega))
      have DB := hide (fun (W : World) (hW : Below w.heap.size w W) => psize_any g qb cb W (ht.below hW) (hg.below hW) hs' hcb (by omega))
      have DC := hide (fun (W : World) (hW : Below w.heap.size w W) q c (hc : (appJ f g).len ≤ c) (hfo : Fo q (appJ f g) W) => psize_any (appJ f g) q c W (ht.below hW) hfo hss hc (by omega))
      have l1 := tx_len f false hs
      have l2 := tx_len g false hs'
      rw [appJ_tx] at CC DC
      have hbs := bs_bs (txF f false) (txF g false)
      have z1 : ¬ 9223372036854775807 < (bs (txF f false)).size + (bs (txF g false)).size := by rw [bs_size, bs_size]; omega
      have n1 : ((txF f false).length : Int) + ((txF g false).length : Int) ≤ 1000000000000 := by omega
      rw [← hbs] at CC
      rw [List.length_append, show ((((txF f false).length + (txF g false).length : Nat)) : Int) = ((txF f false).length : Int) + ((txF g false).length : Int) by omega] at DC
      have HAP := hide (fun (W : World) (hW : Below w.heap.size w W) => append_nodes w W w.heap.size (.slice none 0 0) 0 [] f qa ca (World.ownsRow_nil _ _ _ _) hf hW (by omega) hW.size)
      have HAQ := hide (fun (W : World) v n xs (h1 : n = f.len) (h2 : W.ownsRow w.heap.size 31 6 v n xs) (hW : Below w.heap.size w W) => append_nodes w W w.heap.size v n xs g qb cb h2 hg hW (by omega) hW.size)
      have HFJ := hide (fun (W : World) v xs ys (h1 : W.ownsRow w.heap.size 31 6 v (f.len + g.len) (xs ++ ys)) h2 h3 h4 h5 => fo_joined (w0 := w) h1 h2 h3 h4 h5)
      generalize bs (txF f false) = t1 at *
      generalize bs (txF g false) = t2 at *
      generalize (txF f false).length = s1 at *
      generalize (txF g false).length = s2 at *
      have eT := beq_yes (rfl : t1 ++ t2 = t1 ++ t2)
      have eS : ((s1 : Int) + (s2 : Int) == (s1 : Int) + (s2 : Int)) = true := by simp
      clear hf hg ht hm hlg hmg hca hcb hs hs' hn hn' hr hr' hc hc' hfl hgl hss hcc l1 l2 hbs hll
      generalize hfq : f.len = fl at *
      generalize hgq : g.len = gl at *
      generalize hjq : (appJ f g).len = jl at *
      go_enter Tryd.func6, Tryd.ntmps6
      go_wp2_with fail
      refine (unhide CL).mono ?_
      rintro e w1 ⟨rfl, hb⟩
      have HB' := hide hb
      clear CL hb
      have HB := HB'
      clear HB'
      have C1 := hide (unhide CM w1 (unhide HB))
      clear CM
      go_wp2_with fail
      refine (unhide C1).mono ?_
      rintro e w2 ⟨rfl, hb⟩
      have HB' := hide (tr2 (unhide HB) hb)
      clear HB C1 hb
      have HB := HB'
      clear HB'
      obtain ⟨xs, v3, w3, hr3, hown3, hgr3, hxl, hxr⟩ := unhide HAP w2 (unhide HB)
      have hb3 := (unhide HB).grown hgr3 (unhide HB).size (fun k hk => by simp [Value.ownBlock] at hk)
      simp only [Nat.zero_add, List.nil_append] at hown3
      obtain ⟨ys, v4, w4, hr4, hown4, hgr4, hyl, hyr⟩ := unhide HAQ w3 v3 fl xs rfl hown3 hb3
      have hb4 := hb3.grown hgr4 hb3.size (fun k hk => (hown3.lt k hk).1)
      obtain ⟨q4, c4, hv4, hc4, hfo4⟩ := unhide HFJ w4 v4 xs ys hown4 hxl hb4 hxr hyr
      obtain ⟨a3, c3, hv3⟩ := slice_n hown3
      subst hv4
      subst hv3
      have HX := hide (And.intro hfo4 hc4)
      have HB4 := hide hb4
      clear HB HAP HAQ HFJ hown3 hgr3 hxl hxr hb3 hown4 hgr4 hyl hyr hb4 hfo4 hc4
      have HB := HB4
      clear HB4
      have C4 := hide (unhide CC w4 (unhide HB) q4 c4 (unhide HX).2 (unhide HX).1)
      clear CC
      go_wp2_with (at_builtin; first | refine wpList_append_run _ rfl _ _ 22 22 rfl _ _ rfl rfl hr3 ?_ | refine wpList_append_run _ rfl _ _ 22 22 rfl _ _ rfl rfl hr4 ?_)
      clear hr3 hr4
      refine (unhide C4).mono ?_
      rintro e w5 ⟨rfl, hb⟩
      have HX5 := hide ((unhide HX).1.below hb)
      have HB5 := hide (tr2 (unhide HB) hb)
      clear HB C4 hb
      have HB := HB5
      clear HB5
      have C5 := hide (unhide CA w5 (unhide HB))
      clear CA
      go_wp2_with fail
      refine (unhide C5).mono ?_
      rintro e w6 ⟨rfl, hb⟩
      have HX6 := hide ((unhide HX5).below hb)
      have HB6 := hide (tr2 (unhide HB) hb)
      clear HB C5 hb HX5
      have HB := HB6
      clear HB6
      have C6 := hide (unhide CB w6 (unhide HB))
      clear CB
      go_wp2_with fail
      refine (unhide C6).mono ?_
      rintro e w7 ⟨rfl, hb⟩
      have HX7 := hide ((unhide HX6).below hb)
      have HB7 := hide (tr2 (unhide HB) hb)
      clear HB C6 hb HX6
      have HB := HB7
      clear HB7
      have C7 := hide (unhide DC w7 (unhide HB) q4 c4 (unhide HX).2 (unhide HX7))
      clear DC
      go_wp2_with fail
      refine (unhide C7).mono ?_
      rintro e w8 ⟨rfl, hb⟩
      have HB' := hide (tr2 (unhide HB) hb)
      clear HB C7 hb
      have HB := HB'
      clear HB'
      have C8 := hide (unhide DA w8 (unhide HB))
      clear DA
      go_wp2_with fail
      refine (unhide C8).mono ?_
      rintro e w9 ⟨rfl, hb⟩
      have HB' := hide (tr2 (unhide HB) hb)
      clear HB C8 hb
      have HB := HB'
      clear HB'
      have C9 := hide (unhide DB w9 (unhide HB))
      clear DB
      go_wp2_with fail
      refine (unhide C9).mono ?_
      rintro e w10 ⟨rfl, hb⟩
      have HB' := hide (tr2 (unhide HB) hb)
      clear HB C9 hb
      have HB := HB'
      clear HB'
      have C10 := hide (unhide CP w10 (unhide HB))
      clear CP
      go_wp2_with fail
      refine (unhide C10).mono ?_
      rintro e w11 ⟨rfl, hb⟩
      have HB' := hide (tr2 (unhide HB) hb)
      clear HB C10 hb
      have HB := HB'
      clear HB'
      go_wp2
      go_ret
      exact ⟨rfl, unhide HB⟩
end Go.Proofs.YtpfnjgkfombmpaaDoor

/-
  An argument of type []api.Node opened: the nodes behind it, with all that is below them.
-/
namespace Go.Proofs.YtpfnjgkfombmpaaDoor
open Go.RowKit Go.Deep Go.WideShapes Go.ChangeShapes
set_option linter.unusedVariables false
set_option linter.unusedSimpArgs false

theorem fattr_cells : Tryd.prog.cellsOf 55 = 2 := by kernel_rfl
theorem fstr_cells : Tryd.prog.cellsOf 9 = 1 := by kernel_rfl
theorem fint_cells : Tryd.prog.cellsOf 3 = 1 := by kernel_rfl
theorem fattrs_cells : Tryd.prog.cellsOf 29 = 1 := by kernel_rfl
theorem fnodes_cells : Tryd.prog.cellsOf 22 = 1 := by kernel_rfl
theorem fnode_cells : Tryd.prog.cellsOf 31 = 6 := by kernel_rfl
theorem fadd_addr (a : Addr) (x y : Nat) : (a.add x).add y = a.add (x + y) := by
  unfold Addr.add
  by_cases h1 : x = 0
  · subst h1; simp
  · by_cases h2 : y = 0
    · subst h2; simp [h1]
    · simp [h1, h2, Nat.add_assoc]
def fstrOf : Value → ByteArray
  | .string s => s
  | _ => ByteArray.empty
def fmkAts (V0 V1 : Nat → Value) (len : Nat) : List (ByteArray × ByteArray) := (List.range len).map fun i => (fstrOf (V0 i), fstrOf (V1 i))
theorem fmkAts_len (V0 V1 : Nat → Value) (len : Nat) : (fmkAts V0 V1 len).length = len := by simp [fmkAts]
theorem fmkAts_an {V0 V1 : Nat → Value} {len k : Nat} (h : k < len) : an (fmkAts V0 V1 len) k = fstrOf (V0 k) := by simp [an, fmkAts, List.getD, h]
theorem fmkAts_av {V0 V1 : Nat → Value} {len k : Nat} (h : k < len) : av (fmkAts V0 V1 len) k = fstrOf (V1 k) := by simp [av, fmkAts, List.getD, h]
theorem open_fattrs {H : Type} {enc : TypeId × Value → H} {W : World} {fuel : Nat} {v : Value} {x : DataW H × List MemPlace}
    (h : DataW.trod enc Tryd.prog W 0 (fun _ => true) true fuel 29 [v] = some x) :
    ∃ (ats : List (ByteArray × ByteArray)) (q : Option Addr) (c : Nat), v = .slice q ats.length c ∧ Sl q ats W := by
  rcases open_slice_pairs Tryd.underlying29 Tryd.underlying55 fattr_cells rfl rfl fstr_cells fstr_cells h with ⟨hc, hx⟩ | ⟨a, len, cap, m, k, V0, V1, D0, D1, P0, P1, hc, _, hl, hm, hmm, hx, hall⟩
  · simp only [List.cons.injEq, and_true] at hc
    exact ⟨[], none, 0, hc, Or.inl rfl⟩
  · simp only [List.cons.injEq, and_true] at hc
    simp only [if_true] at hmm
    subst hmm
    have hs0 : ∀ i, i < m → V0 i = .string (fstrOf (V0 i)) := fun i hi => by
      obtain ⟨s, h1, h2, h3⟩ := DataW.trod_string Tryd.underlying9 (hall i hi).2.2.1
      simp only [List.cons.injEq, and_true] at h1
      rw [h1]; rfl
    have hs1 : ∀ i, i < m → V1 i = .string (fstrOf (V1 i)) := fun i hi => by
      obtain ⟨s, h1, h2, h3⟩ := DataW.trod_string Tryd.underlying9 (hall i hi).2.2.2
      simp only [List.cons.injEq, and_true] at h1
      rw [h1]; rfl
    refine ⟨fmkAts V0 V1 len, some a, m, by rw [fmkAts_len]; exact hc, ?_⟩
    by_cases h0 : len = 0
    · subst h0; exact Or.inl rfl
    · obtain ⟨sb, so, spot⟩ := a
      have hspot : spot = none := by simpa [Addr.add] using World.cell?_spot (hall 0 (by omega)).1
      subst hspot
      refine Or.inr ⟨sb, so, rfl, fun k hk => ?_⟩
      rw [fmkAts_len] at hk
      rw [fmkAts_an hk, fmkAts_av hk]
      have e0 := (hall k (by omega)).1
      have e1 := (hall k (by omega)).2.1
      rw [hs0 k (by omega)] at e0
      rw [hs1 k (by omega)] at e1
      rw [Addr.add_lit] at e0 e1
      exact ⟨e0, by rw [Nat.add_assoc]; exact e1⟩
/-- One node at a place. -/
def NodeAt (g o : Nat) (w : World) : Prop := ∃ k sp n ats tx kids,
  w.cell? ⟨g, o, none⟩ = some (.int .i64 k) ∧ w.cell? ⟨g, o + 1, none⟩ = some (.int .i64 sp) ∧ w.cell? ⟨g, o + 2, none⟩ = some (.string n) ∧
      (∃ qa ca, w.cell? ⟨g, o + 3, none⟩ = some (.slice qa (ats : List (ByteArray × ByteArray)).length ca) ∧ Sl qa ats w) ∧ w.cell? ⟨g, o + 4, none⟩ = some (.string tx) ∧
      ∃ qk ck, w.cell? ⟨g, o + 5, none⟩ = some (.slice qk (kids : Forest).len ck) ∧ kids.len ≤ ck ∧ (kids = .nil ∨ ∃ g' o', qk = some ⟨g', o', none⟩ ∧ Lies kids g' o' w)
theorem forest_of {g : Nat} {w : World} : ∀ (len o : Nat), (∀ i, i < len → NodeAt g (o + i * 6) w) → ∃ f : Forest, f.len = len ∧ Lies f g o w
  | 0, o, h => ⟨.nil, rfl, trivial⟩
  | len + 1, o, h => by
    obtain ⟨k, sp, n, ats, tx, kids, hn⟩ := h 0 (by omega)
    obtain ⟨f, hf, hl⟩ := forest_of len (o + 6) (fun i hi => by have := h (i + 1) (by omega); rw [show o + (i + 1) * 6 = o + 6 + i * 6 by omega] at this; exact this)
    rw [Nat.zero_mul, Nat.add_zero] at hn
    exact ⟨.cons k sp n ats tx kids f, by simp [Forest.len, hf], hn, hl⟩
theorem size_mem {H : Type} {d : DataW H} {l : List (DataW H)} (h : d ∈ l) : SizeOf.sizeOf d < SizeOf.sizeOf l := List.sizeOf_lt_of_mem h
set_option maxRecDepth 100000 in
theorem open_forest {H : Type} {enc : TypeId × Value → H} {W : World} : ∀ (sz : Nat) (fuel : Nat) (v : Value) (d : DataW H) (ps : List MemPlace), SizeOf.sizeOf d ≤ sz →
    DataW.trod enc Tryd.prog W 0 (fun _ => true) true fuel 22 [v] = some (d, ps) → ∃ (f : Forest) (q : Option Addr) (cap : Nat), v = .slice q f.len cap ∧ f.len ≤ cap ∧ Fo q f W
  | 0, fuel, v, d, ps, hs, h => by cases d <;> simp at hs
  | sz + 1, fuel, v, d, ps, hs, h => by
    rcases open_slice Tryd.underlying22 h with ⟨hc, hx⟩ | ⟨a, len, cap, m, k, D, Pl, hc, _, hl, hm, hmm, hx, hall⟩
    · simp only [List.cons.injEq, and_true] at hc
      exact ⟨.nil, none, 0, hc, Nat.le_refl _, Or.inl rfl⟩
    · simp only [List.cons.injEq, and_true] at hc
      simp only [if_true] at hmm
      subst hmm
      have hd : d = .slice ((List.range len).map D) ((List.range (m - len)).map fun j => D (len + j)) := congrArg Prod.fst hx
      have hsz : ∀ i, i < len → SizeOf.sizeOf (D i) < SizeOf.sizeOf d := fun i hi => by
        have h1 : D i ∈ (List.range len).map D := List.mem_map.2 ⟨i, List.mem_range.2 hi, rfl⟩
        have h2 := size_mem h1
        rw [hd]
        simp only [DataW.slice.sizeOf_spec]
        omega
      by_cases h0 : len = 0
      · subst h0
        exact ⟨.nil, some a, m, hc, Nat.zero_le _, Or.inl rfl⟩
      have each : ∀ i, i < len → ∃ cs', (∀ j, j < 6 → W.cell? (a.add (i * 6 + j)) = cs'[j]?) ∧ DataW.trod enc Tryd.prog W 0 (fun _ => true) true k 31 cs' = some (D i, Pl i) := fun i hi => by
        obtain ⟨cs', h1, h2⟩ := hall i (by omega)
        rw [fnode_cells] at h1
        obtain ⟨_, hlen, hcell⟩ := World.cells?_some h1
        exact ⟨cs', fun j hj => by have := hcell j hj; rw [fadd_addr] at this; exact this, h2⟩
      obtain ⟨b, o, spot⟩ := a
      have hspot : spot = none := by
        obtain ⟨cs', h1, h2⟩ := each 0 (by omega)
        obtain ⟨xs, k', _, _, hl', _, _⟩ := DataW.trod_struct Tryd.underlying31 h2
        rw [fnode_cells] at hl'
        have h3 := h1 0 (by omega)
        rw [List.getElem?_eq_getElem (by omega)] at h3
        simpa [Addr.add] using World.cell?_spot h3
      subst hspot
      have hnode : ∀ i, i < len → NodeAt b (o + i * 6) W := fun i hi => by
        obtain ⟨cs', h1, h2⟩ := each i hi
        have hszi := hsz i hi
        generalize D i = di at *
        generalize Pl i = pi at *
        obtain ⟨xs, k', _, hxe, hl', hxl, hf⟩ := DataW.trod_struct Tryd.underlying31 h2
        rw [fnode_cells] at hl'
        match cs', hl', xs, hxl with
        | [c0, c1, c2, c3, c4, c5], _, [y0, y1, y2, y3, y4, y5], _ =>
          have g0 := hf 0 _ rfl
          have g1 := hf 1 _ rfl
          have g2 := hf 2 _ rfl
          have g3 := hf 3 _ rfl
          have g4 := hf 4 _ rfl
          have g5 := hf 5 _ rfl
          simp [fint_cells, fstr_cells, fattrs_cells, fnodes_cells] at g0 g1 g2 g3 g4 g5
          obtain ⟨ki, e0', _⟩ := DataW.trod_int Tryd.underlying3 g0
          obtain ⟨spi, e1', _⟩ := DataW.trod_int Tryd.underlying3 g1
          obtain ⟨ni, e2', _⟩ := DataW.trod_string Tryd.underlying9 g2
          obtain ⟨ats, qa, ca, e3', hsl⟩ := open_fattrs g3
          obtain ⟨ti, e4', _⟩ := DataW.trod_string Tryd.underlying9 g4
          obtain ⟨y5d, y5p⟩ := y5
          have hdi : di = .agg [y0.1, y1.1, y2.1, y3.1, y4.1, y5d] := by have := congrArg Prod.fst hxe; simpa using this
          have hs5 : SizeOf.sizeOf y5d ≤ sz := by
            rw [hdi] at hszi
            simp only [DataW.agg.sizeOf_spec, List.cons.sizeOf_spec] at hszi
            omega
          obtain ⟨kf, qk, ck, e5', hck, hkf⟩ := open_forest sz k' c5 y5d y5p hs5 g5
          simp at e0' e1' e2' e4'
          have z := fun j hj => h1 j hj
          have z0 := z 0 (by omega)
          have z1 := z 1 (by omega)
          have z2 := z 2 (by omega)
          have z3 := z 3 (by omega)
          have z4 := z 4 (by omega)
          have z5 := z 5 (by omega)
          rw [Addr.add_lit] at z0 z1 z2 z3 z4 z5
          simp only [List.getElem?_cons_zero, List.getElem?_cons_succ] at z0 z1 z2 z3 z4 z5
          refine ⟨ki, spi, ni, ats, ti, kf, ?_, ?_, ?_, ⟨qa, ca, ?_, hsl⟩, ?_, qk, ck, ?_, hck, hkf⟩
          · rw [← e0']; exact z0
          · rw [Nat.add_assoc, ← e1']; exact z1
          · rw [Nat.add_assoc, ← e2']; exact z2
          · rw [Nat.add_assoc, ← e3']; exact z3
          · rw [Nat.add_assoc, ← e4']; exact z4
          · rw [Nat.add_assoc, ← e5']; exact z5
      obtain ⟨f, hf, hlf⟩ := forest_of len o hnode
      exact ⟨f, some ⟨b, o, none⟩, m, by rw [hf]; exact hc, by omega, Or.inr ⟨b, o, rfl, hlf⟩⟩
theorem open_nodes {H : Type} {enc : TypeId × Value → H} {W : World} {qa : Option Addr} {len cap : Nat} {d : DataW H} {ps : List MemPlace}
    (h : DataW.Trod enc Tryd.prog W 0 (fun _ => true) true 22 (.slice qa len cap) d ps) : ∃ f : Forest, f.len = len ∧ len ≤ cap ∧ Fo qa f W := by
  obtain ⟨n, t0⟩ := h
  have t1 : DataW.trod enc Tryd.prog W 0 (fun _ => true) true n 22 [.slice qa len cap] = some (d, ps) := by simpa [Value.cells] using t0
  obtain ⟨f, q, c, e, hc, hf⟩ := open_forest _ n _ d ps (Nat.le_refl _) t1
  injection e with e1 e2 e3
  subst e1 e2 e3
  exact ⟨f, rfl, hc, hf⟩
end Go.Proofs.YtpfnjgkfombmpaaDoor

namespace Go.Proofs.YtpfnjgkfombmpaaDoor.printJoinsF
open Go.ChangeShapes Go.WideShapes Go.ChangeAt Go.RowKit
open Go.ChangeMaps (open_string shut_string)
set_option linter.unusedVariables false

theorem own : ownKnob Tryd.prog.godebug = none := by kernel_rfl
theorem gHeads : Tryd.prog.globalNamed "recto/utf.heads" = some 0 := by kernel_rfl
theorem gEnds : Tryd.prog.globalNamed "recto/utf.ends" = some 1 := by kernel_rfl
theorem gHeadsType : (Tryd.prog.globals[0]?).map (·.type) = some 118 := by kernel_rfl
theorem gEndsType : (Tryd.prog.globals[1]?).map (·.type) = some 118 := by kernel_rfl
theorem cellsArr : Tryd.prog.cellsOf 118 = 5 := by kernel_rfl
theorem cellsInt : Tryd.prog.cellsOf 3 = 1 := by kernel_rfl

/-- What the row's list gives: the two tables' cells. -/
theorem laid_tail {x : String × DataW Unit} {rest : List (String × DataW Unit)} {W : World} (h : laidMet Tryd.prog (x :: rest) W) : laidMet Tryd.prog rest W := by
  obtain ⟨ps, ⟨g1, t1, cs1, f1, p1, q1, _, _, _, _, hrest, rfl⟩, hnd, hcell⟩ := h
  exact ⟨q1, hrest, (List.nodup_append.1 hnd).2.1, fun b off hm => hcell b off (List.mem_append_right _ hm)⟩
theorem heads {W : World} (h : laidMetH Tryd.prog Rows.printJoinsRow.laid W) : Lib.TabIs Tryd.prog W "recto/utf.heads" .i64 [0, 0, 192, 224, 240] := by
  have h0 : laidMet Tryd.prog [("unicode/utf8.acceptRanges", Rows.laid_unicode_utf8_acceptRanges), ("recto/utf.heads", Rows.laid_recto_utf_heads), ("recto/utf.ends", Rows.laid_recto_utf_ends), ("unicode/utf8.first", Rows.laid_unicode_utf8_first)] W := h
  exact Lib.tabIs_of_head gHeads gHeadsType Tryd.underlying118 Tryd.underlying3 cellsInt cellsArr (laid_tail h0)
theorem ends {W : World} (h : laidMetH Tryd.prog Rows.printJoinsRow.laid W) : Lib.TabIs Tryd.prog W "recto/utf.ends" .i64 [0, 128, 2048, 65536, 1114112] := by
  have h0 : laidMet Tryd.prog [("unicode/utf8.acceptRanges", Rows.laid_unicode_utf8_acceptRanges), ("recto/utf.heads", Rows.laid_recto_utf_heads), ("recto/utf.ends", Rows.laid_recto_utf_ends), ("unicode/utf8.first", Rows.laid_unicode_utf8_first)] W := h
  exact Lib.tabIs_of_head gEnds gEndsType Tryd.underlying118 Tryd.underlying3 cellsInt cellsArr (laid_tail (laid_tail h0))
theorem tabs {W : World} (h : laidMetH Tryd.prog Rows.printJoinsRow.laid W) : Tabs W :=
  ⟨(heads h).cell gHeads 1 (by decide), (heads h).cell gHeads 2 (by decide), (heads h).cell gHeads 3 (by decide), (heads h).cell gHeads 4 (by decide),
   (ends h).cell gEnds 1 (by decide), (ends h).cell gEnds 2 (by decide), (ends h).cell gEnds 3 (by decide), (ends h).cell gEnds 4 (by decide)⟩

theorem laidOut : laidOutB Tryd.prog = true := by kernel_rfl
theorem mx {W : World} (h : W.ShapedOpen Tryd.prog) : MxJ W :=
  Go.Proofs.cell_of_shapedOpen_int (zero := #[.int .i64 0]) (t := 3) h (of_decide_eq_true (by kernel_rfl)) (by kernel_rfl) rfl (by kernel_rfl) (by kernel_rfl) Tryd.underlying3

set_option maxRecDepth 100000 in
theorem contract (H : Type) (enc : TypeId × Value → H) (W : World) (base : Nat) (args : Array Value) (ds gs : List (DataW H)) (before : List MemPlace)
    (hval : ∀ (j : Nat) t v, Tryd.f6.params[j]? = some t → args[j]? = some v → Value.okWide Tryd.prog W .any base t v)
    (hW : DataW.Whole enc Tryd.prog Tryd.f6.params.toList Rows.printJoinsSpec.vars false W args.toList ds gs before) (hL : laidMetH Tryd.prog Rows.printJoinsRow.laid W) (hSO : W.ShapedOpen Tryd.prog) :
    Calls Tryd.prog 6 args W fun e W' => ∃ v, e = .returned v ∧ Rows.printJoinsSpec.post enc Tryd.prog Tryd.f6 false true false false W args v W' := by
  have hW' := hW
  obtain ⟨p, q, hA0, hV, rfl, hfz, hnd⟩ := hW
  have hA : DataW.TrodAll enc Tryd.prog W 0 (fun _ => true) true Tryd.f6.params.toList args.toList ds p := hA0
  rw [Tryd.params6] at hA hval
  obtain ⟨v0, vs0, d0, ds0, p0, q0, hargs, rfl, rfl, h0, r0⟩ := trodAll_cons hA
  obtain ⟨v1, vs1, d1, ds1, p1, q1, rfl, rfl, rfl, h1, r1⟩ := trodAll_cons r0
  obtain ⟨rfl, rfl, rfl⟩ := trodAll_nil r1
  obtain rfl : args = #[v0, v1] := by cases args; simp_all
  obtain ⟨rfl, rfl⟩ := trodVars_none hV
  have hlt0 : ∀ x ∈ p0, x.block < W.heap.size := fun x hx => hW'.lt x (by simp [hx])
  obtain ⟨q0', len0, cap0, rfl⟩ := okWide_slice Tryd.underlying22 (hval 0 22 v0 rfl rfl)
  obtain ⟨f0, rfl, hcap0, hfo0⟩ := open_nodes h0
  have hlt1 : ∀ x ∈ p1, x.block < W.heap.size := fun x hx => hW'.lt x (by simp [hx])
  obtain ⟨q1', len1, cap1, rfl⟩ := okWide_slice Tryd.underlying22 (hval 1 22 v1 rfl rfl)
  obtain ⟨f1, rfl, hcap1, hfo1⟩ := open_nodes h1
  clear hA0
  refine (joins_walk f0 f1 q0' q1' cap0 cap1 W (tabs hL) (mx hSO) hfo0 hfo1 hcap0 hcap1).mono fun e W' ⟨he, bel⟩ => ?_
  subst he
  exact ⟨_, rfl, _, _, _, [], _, [], hW', trodAll_mk1 (shut_bool Tryd.underlying4 _), (trodAll_cons_mk (Below.trod laidOut (by kernel_rfl) (of_decide_eq_true (by kernel_rfl)) h0 bel hlt0) (trodAll_cons_mk (Below.trod laidOut (by kernel_rfl) (of_decide_eq_true (by kernel_rfl)) h1 bel hlt1) trodAll_mk0)), rfl, bel.frame _, fun h => by cases h⟩

/-- What the tables' initialisers lay. -/
def lay0 : Obj → Obj
  | .cells _ t frozen => .cells #[.int .i64 0, .int .i64 0, .int .i64 192, .int .i64 224, .int .i64 240] t frozen
  | o => o
def lay1 : Obj → Obj
  | .cells _ t frozen => .cells #[.int .i64 0, .int .i64 128, .int .i64 2048, .int .i64 65536, .int .i64 1114112] t frozen
  | o => o
def layF : Obj → Obj
  | .cells _ t frozen => .cells (Go.Pinned.utf8FirstZ.map (fun z => Value.int .u8 (z : Nat))).toArray t frozen
  | o => o
def layR : Obj → Obj
  | .cells _ t frozen => .cells #[.int .u8 128, .int .u8 191, .int .u8 160, .int .u8 191, .int .u8 128, .int .u8 159, .int .u8 144, .int .u8 191, .int .u8 128, .int .u8 143, .int .u8 0, .int .u8 0, .int .u8 0, .int .u8 0, .int .u8 0, .int .u8 0, .int .u8 0, .int .u8 0, .int .u8 0, .int .u8 0, .int .u8 0, .int .u8 0, .int .u8 0, .int .u8 0, .int .u8 0, .int .u8 0, .int .u8 0, .int .u8 0, .int .u8 0, .int .u8 0, .int .u8 0, .int .u8 0] t frozen
  | o => o
set_option maxRecDepth 100000 in
theorem laid_met (os : Os) : laidMet Tryd.prog Rows.printJoinsRow.laid (({ World.holding Tryd.prog os ⟨#[], #[], []⟩ with heap := ((((World.holding Tryd.prog os ⟨#[], #[], []⟩).heap.modify 0 lay0).modify 1 lay1).modify 3 layF).modify 4 layR } : World).forCall (fun _ _ => 0) ⟨#[], #[.slice none 0 0, .slice none 0 0], []⟩).memory :=
  laidMet_of_run' 8 (by kernel_rfl) (by kernel_rfl)
theorem reads (os : Os) {H : Type} (enc : TypeId × Value → H) : ∃ places, DataW.whole enc Tryd.prog (({ World.holding Tryd.prog os ⟨#[], #[], []⟩ with heap := ((((World.holding Tryd.prog os ⟨#[], #[], []⟩).heap.modify 0 lay0).modify 1 lay1).modify 3 layF).modify 4 layR } : World).forCall (fun _ _ => 0) ⟨#[], #[.slice none 0 0, .slice none 0 0], []⟩).memory Tryd.f6.params.toList Rows.printJoinsSpec.vars false #[Value.slice none 0 0, Value.slice none 0 0].toList 8 = some ([.nil, .nil], [], places) :=
  ⟨[], by kernel_rfl⟩

set_option maxRecDepth 100000 in
theorem lifted (os : Os) (started : os.Started) (H : Type) (enc : TypeId × Value → H) (F : Stop.Interp) :
    ReturnsInHanded {} Tryd.checked os 6 .any ((OpenSpec.ofChange Rows.printJoinsSpec).preRow enc Tryd.prog Tryd.f6 Rows.printJoinsRow.domain false Rows.printJoinsRow.laid) (((OpenSpec.ofChange Rows.printJoinsSpec).at F).post enc Tryd.prog Tryd.f6 false true false false) := by
  obtain ⟨places, hx⟩ := reads os enc
  refine returnsInHanded_of_row (C := Tryd.checked) (s := OpenSpec.ofChange Rows.printJoinsSpec) own started (by kernel_rfl) Tryd.func6
    (witness_row_at (enc := enc) (C := Tryd.checked) false ({ World.holding Tryd.prog os ⟨#[], #[], []⟩ with heap := ((((World.holding Tryd.prog os ⟨#[], #[], []⟩).heap.modify 0 lay0).modify 1 lay1).modify 3 layF).modify 4 layR } : World) #[.slice none 0 0, .slice none 0 0] rfl (by kernel_rfl) (by kernel_rfl) (by kernel_rfl)
      (OpenSpec.preRow_of_cond 8 hx (by kernel_rfl) (fun k hk => by cases hk) (by kernel_rfl) (laid_met os))) ?_
  intro W base args ds gs before hval hW _ _ _ hL hSO _
  exact contract H enc W base args ds gs before hval hW hL hSO

theorem said : Rows.PrintJoinsSaid :=
  OpenClaim.holds_of_cond 6 Tryd.f6 rfl rfl rfl rfl rfl rfl rfl ⟨rfl, rfl, rfl, rfl, rfl⟩ rfl rfl rfl rfl rfl (by kernel_rfl) Tryd.func6 (by kernel_rfl)
    (of_decide_eq_true (by kernel_rfl)) (by unfold Func.isWrapper; first | (rw [if_pos (by decide +kernel)]; kernel_rfl) | (rw [if_neg (by decide +kernel)]; exact ⟨rfl, rfl⟩))
    (fun os started H enc _ F => by rw [OpenClaim.pre_eq_preRow]; exact lifted os started H enc F)

theorem plain (f : FuncId) (fn : Func) (hf : Tryd.pinned.checked.prog.funcNamed "recto/rectolaw13.PrintJoins" = some f) (hfn : Tryd.pinned.checked.prog.funcs[f]? = some fn) :
    false = Tryd.pinned.checked.prog.looks [] ∧ ∀ (j : Nat) t, fn.params[j]? = some t → Tryd.pinned.checked.prog.wantsStandIn t = false := by
  obtain rfl : f = 6 := Option.some.inj ((show Tryd.prog.funcNamed "recto/rectolaw13.PrintJoins" = some 6 by kernel_rfl).symm.trans hf) |>.symm
  obtain rfl : fn = Tryd.f6 := (Option.some.inj (Tryd.func6.symm.trans hfn)).symm
  refine ⟨by kernel_rfl, fun j t ht => ?_⟩
  rw [Tryd.params6] at ht
  obtain rfl : t = 22 := by simpa using Array.mem_of_getElem? ht
  exact (show Tryd.prog.wantsStandIn 22 = false by kernel_rfl)

theorem card : Rows.PrintJoinsCardSaid :=
  Claim7.holds_tied_plain_at .later [] _ _ _ _ said (fun _ h => by cases h) (by kernel_rfl) (fun _ h => by cases h) printJoins_row_tie rfl ⟨rfl, rfl⟩ (by kernel_rfl) rfl plain (by kernel_rfl)
end Go.Proofs.YtpfnjgkfombmpaaDoor.printJoinsF

namespace Go.Proofs.YtpfnjgkfombmpaaDoor
theorem printJoins_card : Rows.PrintJoinsCardSaid := printJoinsF.card
end Go.Proofs.YtpfnjgkfombmpaaDoor
