/-
  Several texts in one: what the functions of the program and of the document's answer do.
-/
import Derived.Test.YtbabmkilbbbmoaaDoorMgAA
import Derived.Test.YtbabmkilbbbmoaaDoorMgAJ
import Derived.Test.YtbabmkilbbbmoaaDoorMgAF
import Derived.Test.YtbabmkilbbbmoaaDoorMgAE

/-
  What rectoplain.Large does: whether nodes are more than are gone through.
-/
namespace Go.Proofs.YtbabmkilbbbmoaaDoor
open Go.RowKit
set_option linter.unusedVariables false
set_option linter.unusedSimpArgs false

def lgA (a : ByteArray × ByteArray) : Bool := decide (100 < a.1.size) || decide (2000 < a.2.size)
def lgN (N : Int) (tx : ByteArray) (ats : List (ByteArray × ByteArray)) : Int := N - 1 - ((tx.size / 16 : Nat) : Int) - (ats.length : Int)
def lgL (d : Nat) : Forest → Int → Bool × Int
  | .nil, N => (decide (N < 0), N)
  | .cons k sp n ats tx kids rest, N =>
    if N - 1 < 0 ∨ 40 < ats.length ∨ 5000 < tx.size ∨ 100 < n.size then (true, N - 1)
    else if ats.any lgA = true then (true, lgN N tx ats)
    else if (if 60 < d + 1 ∨ 500 < kids.len then (true, lgN N tx ats) else lgL (d + 1) kids (lgN N tx ats)).1 = true then (true, (if 60 < d + 1 ∨ 500 < kids.len then (true, lgN N tx ats) else lgL (d + 1) kids (lgN N tx ats)).2)
    else lgL d rest (if 60 < d + 1 ∨ 500 < kids.len then (true, lgN N tx ats) else lgL (d + 1) kids (lgN N tx ats)).2
def lgT (d : Nat) (f : Forest) (N : Int) : Bool × Int := if 60 < d ∨ 500 < f.len then (true, N) else lgL d f N
theorem lgL_cons (d : Nat) (k sp : Int) (n : ByteArray) (ats : List (ByteArray × ByteArray)) (tx : ByteArray) (kids rest : Forest) (N : Int) (h : ¬ (N - 1 < 0 ∨ 40 < ats.length ∨ 5000 < tx.size ∨ 100 < n.size)) (ha : ats.any lgA = false) :
    lgL d (.cons k sp n ats tx kids rest) N = if (lgT (d + 1) kids (lgN N tx ats)).1 = true then (true, (lgT (d + 1) kids (lgN N tx ats)).2) else lgL d rest (lgT (d + 1) kids (lgN N tx ats)).2 := by
  rw [lgL, if_neg h, ha, if_neg (by simp)]
  rfl
/-- What is not large comes with room. -/
theorem lgL_room (d : Nat) : ∀ (f : Forest) (N N' : Int), lgL d f N = (false, N') → 0 ≤ N'
  | .nil, N, N', h => by
    rw [lgL] at h
    injection h with h1 h2
    have := of_decide_eq_false h1
    omega
  | .cons k sp n ats tx kids rest, N, N', h => by
    by_cases h1 : N - 1 < 0 ∨ 40 < ats.length ∨ 5000 < tx.size ∨ 100 < n.size
    · rw [lgL, if_pos h1] at h; injection h with h1; cases h1
    · cases ha : ats.any lgA with
      | true => rw [lgL, if_neg h1, if_pos ha] at h; injection h with h1; cases h1
      | false =>
        rw [lgL_cons d k sp n ats tx kids rest N h1 ha] at h
        split at h
        · injection h with h1; cases h1
        · exact lgL_room d rest _ _ h
theorem lgN_le (N : Int) (tx : ByteArray) (ats : List (ByteArray × ByteArray)) : lgN N tx ats ≤ N := by
  unfold lgN
  have : (0 : Int) ≤ ((tx.size / 16 : Nat) : Int) := Int.natCast_nonneg _
  omega
theorem lgL_le (d : Nat) : ∀ (f : Forest) (N : Int), (lgL d f N).2 ≤ N
  | .nil, N => by rw [lgL]; exact Int.le_refl _
  | .cons k sp n ats tx kids rest, N => by
    have hn := lgN_le N tx ats
    have h2 : (if 60 < d + 1 ∨ 500 < kids.len then (true, lgN N tx ats) else lgL (d + 1) kids (lgN N tx ats)).2 ≤ N := by
      split
      · exact hn
      · exact Int.le_trans (lgL_le (d + 1) kids _) hn
    rw [lgL]
    generalize (if 60 < d + 1 ∨ 500 < kids.len then (true, lgN N tx ats) else lgL (d + 1) kids (lgN N tx ats)) = r at *
    split
    · show N - 1 ≤ N; omega
    · split
      · exact hn
      · split
        · exact h2
        · exact Int.le_trans (lgL_le d rest _) h2
theorem lgT_le (d : Nat) (f : Forest) (N : Int) : (lgT d f N).2 ≤ N := by
  unfold lgT
  split
  · exact Int.le_refl _
  · exact lgL_le d f N
theorem any_take (ats : List (ByteArray × ByteArray)) (i : Nat) (h : i < ats.length) : (ats.take (i + 1)).any lgA = ((ats.take i).any lgA || lgA (ats.getD i (⟨#[]⟩, ⟨#[]⟩))) := by
  rw [List.take_add_one, List.getElem?_eq_getElem h, List.any_append]
  simp [List.getD, List.getElem?_eq_getElem h]
theorem any_at (ats : List (ByteArray × ByteArray)) (i : Nat) (h : i < ats.length) (ha : lgA (ats.getD i (⟨#[]⟩, ⟨#[]⟩)) = true) : ats.any lgA = true := by
  rw [List.any_eq_true]
  refine ⟨ats[i], List.getElem_mem h, ?_⟩
  simpa [List.getD, List.getElem?_eq_getElem h] using ha
theorem lgT_room (d : Nat) (f : Forest) (N N' : Int) (h : lgT d f N = (false, N')) : 0 ≤ N' := by
  unfold lgT at h
  split at h
  · injection h with h1; cases h1
  · exact lgL_room d f N N' h
/-- What the call says and leaves. -/
def LgSaid (w0 : World) (pr : Nat) (r : Bool × Int) (e : Ending) (w' : World) : Prop := e = .returned (.bool r.1) ∧ Blk w' pr #[.int .i64 r.2] 60 ∧ Below w0.heap.size w0 w'
set_option maxHeartbeats 1000000 in
theorem large_top (q : Option Addr) (n cap pr d : Nat) (N : Int) (w0 W : World) (hd : d ≤ 61) (h : 60 < d ∨ 500 < n) (hb : Below w0.heap.size w0 W) (hk : Blk W pr #[.int .i64 N] 60) :
    Calls Tryd.prog 27 #[.slice q n cap, .pointer (some ⟨pr, 0, none⟩), .int .i64 (d : Int)] W (LgSaid w0 pr (true, N)) := by
  have HX := hide (And.intro hk hb)
  clear hk hb
  by_cases h1 : 60 < d
  · have h2 : (60 : Int) < (d : Int) := by omega
    go_enter Tryd.func27, Tryd.ntmps27
    go_wp2
    go_ret
    exact ⟨rfl, unhide HX⟩
  · have h2 : ¬ (60 : Int) < (d : Int) := by omega
    have h2' : decide ((60 : Int) < (d : Int)) = false := decide_eq_false h2
    have h3 : (500 : Int) < (n : Int) := by omega
    clear h
    go_enter Tryd.func27, Tryd.ntmps27
    go_wp2
    go_ret
    exact ⟨rfl, unhide HX⟩
set_option maxHeartbeats 1000000 in
theorem large_none (q : Option Addr) (cap pr d : Nat) (N : Int) (w0 W : World) (hd : d ≤ 60) (hb : Below w0.heap.size w0 W) (hk : Blk W pr #[.int .i64 N] 60) :
    Calls Tryd.prog 27 #[.slice q 0 cap, .pointer (some ⟨pr, 0, none⟩), .int .i64 (d : Int)] W (LgSaid w0 pr (decide (N < 0), N)) := by
  have c0 : W.cell? ⟨pr, 0, none⟩ = some (.int .i64 N) := hk.cell 0
  have HX := hide (And.intro hk hb)
  have h2 : ¬ (60 : Int) < (d : Int) := by omega
  have h2' : decide ((60 : Int) < (d : Int)) = false := decide_eq_false h2
  clear hk hb
  go_enter Tryd.func27, Tryd.ntmps27
  go_wp2
  refine wp_loop_rounds 1 ?_
  rw [rounds_succ]; go_wp2
  go_ret
  exact ⟨rfl, unhide HX⟩
def LgAt (d : Nat) (f : Forest) (w0 : World) (pr : Nat) (res : Bool × Int) (b : Value) (wr : World) : Prop :=
  ∃ (j : Nat) (N : Int), j ≤ f.len ∧ b = .int .i64 j ∧ lgL d (f.drop j) N = res ∧ -1000 ≤ N ∧ N ≤ 1200 ∧ Blk wr pr #[.int .i64 N] 60 ∧ Below w0.heap.size w0 wr
set_option maxHeartbeats 20000000 in
set_option maxRecDepth 100000 in
theorem large_some (f : Forest) (g o cap pr d : Nat) (N : Int) (res : Bool × Int) (w0 W : World) (hd : d ≤ 60) (hf : f.len ≤ 500) (h0 : 0 < f.len) (hl : Lies f g o w0) (hpr : w0.heap.size ≤ pr) (hN : -1000 ≤ N ∧ N ≤ 1200) (hb : Below w0.heap.size w0 W) (hk : Blk W pr #[.int .i64 N] 60) (hres : lgL d f N = res)
    (ih : Hid (∀ j k sp n ats tx kids, f.drop j = .cons k sp n ats tx kids (f.drop (j + 1)) → ∀ q cap N W, -1000 ≤ N ∧ N ≤ 1200 → Fo q kids w0 → Below w0.heap.size w0 W → Blk W pr #[.int .i64 N] 60 → Calls Tryd.prog 27 #[.slice q kids.len cap, .pointer (some ⟨pr, 0, none⟩), .int .i64 ((d + 1 : Nat) : Int)] W (LgSaid w0 pr (lgT (d + 1) kids N)))) :
    Calls Tryd.prog 27 #[.slice (some ⟨g, o, none⟩) f.len cap, .pointer (some ⟨pr, 0, none⟩), .int .i64 (d : Int)] W (LgSaid w0 pr res) := by
  have HL := hide hl
  have HAT : Hid (LgAt d f w0 pr res (.int .i64 0) W) := hide ⟨0, N, Nat.zero_le _, rfl, by rw [Forest.drop_zero]; exact hres, hN.1, hN.2, hk, hb⟩
  have h2 : ¬ (60 : Int) < (d : Int) := by omega
  have h2' : decide ((60 : Int) < (d : Int)) = false := decide_eq_false h2
  have h3 : ¬ (500 : Int) < (f.len : Int) := by omega
  clear hl hb hk hres hN
  go_enter Tryd.func27, Tryd.ntmps27
  go_wp2
  go_loopw [20] (fun b wr => LgAt d f w0 pr res b wr) (fun b _ => f.len - (intOf b).toNat)
  case atStart => exact unhide HAT
  case round =>
    clear HAT
    obtain ⟨j, N1, hj, rfl, hr, hn1, hn2, hk, hb⟩ := hrel
    by_cases hp : j < f.len
    · have hpi : (j : Int) < (f.len : Int) := by omega
      obtain ⟨k, sp, n, ats, tx, kids, hdr⟩ := f.drop_cons j hp
      have hlj := (unhide HL).drop j
      rw [hdr] at hlj hr
      obtain ⟨⟨e0, e1, e2, ⟨qa, ca, e3, hsl⟩, e4, ⟨qk, ck, e5, hck, hfo⟩⟩, _⟩ := hlj
      have c0 := cell_later hb e0
      have c1 := cell_later hb e1
      have c2 := cell_later hb e2
      have c3 := cell_later hb e3
      have c4 := cell_later hb e4
      have c5 := cell_later hb e5
      have hprl : pr < wr.heap.size := hk.lt
      have p0 : wr.cell? ⟨pr, 0, none⟩ = some (.int .i64 N1) := hk.cell 0
      have pf : wr.frozen? ⟨pr, 0, none⟩ = false := hk.frozen 0
      have HK1 : Hid (Blk (wr.setCell ⟨pr, 0, none⟩ (.int .i64 (N1 - 1))) pr #[.int .i64 (N1 - 1)] 60) := hide (hk.set 0 (by simp) (.int .i64 (N1 - 1)))
      have HB1 : Hid (Below w0.heap.size w0 (wr.setCell ⟨pr, 0, none⟩ (.int .i64 (N1 - 1)))) := hide (hb.setCell hpr _)
      have CK := hide (fun q cap N W => unhide ih j k sp n ats tx kids hdr q cap N W)
      have HFO : Hid (Fo qk kids w0) := hide hfo
      have HSL : Hid (Sl qa ats w0) := hide hsl
      have HR := hide hr
      clear hfo hsl hdr e0 e1 e2 e3 e4 e5 hr
      have hw1 : IntKind.i64.wrap (N1 - 1) = N1 - 1 := by rw [IntKind.wrap_i64]; omega
      by_cases b1 : N1 - 1 < 0
      · have HE : Hid (res = (true, N1 - 1)) := hide (by rw [← unhide HR, lgL, if_pos (Or.inl b1)])
        clear HR CK hk hb
        go_wp2
        go_ret
        rw [unhide HE]
        exact ⟨rfl, (unhide HK1).alloc _, (unhide HB1).alloc (unhide HB1).size _⟩
      have b1' : decide (N1 - 1 < 0) = false := decide_eq_false b1
      by_cases b2 : 40 < ats.length
      · have b2i : (40 : Int) < (ats.length : Int) := by omega
        have HE : Hid (res = (true, N1 - 1)) := hide (by rw [← unhide HR, lgL, if_pos (Or.inr (Or.inl b2))])
        clear HR CK hk hb
        go_wp2
        go_ret
        rw [unhide HE]
        exact ⟨rfl, (unhide HK1).alloc _, (unhide HB1).alloc (unhide HB1).size _⟩
      have b2i : ¬ (40 : Int) < (ats.length : Int) := by omega
      have b2' : decide ((40 : Int) < (ats.length : Int)) = false := decide_eq_false b2i
      by_cases b3 : 5000 < tx.size
      · have b3i : (5000 : Int) < (tx.size : Int) := by omega
        have HE : Hid (res = (true, N1 - 1)) := hide (by rw [← unhide HR, lgL, if_pos (Or.inr (Or.inr (Or.inl b3)))])
        clear HR CK hk hb
        go_wp2
        go_ret
        rw [unhide HE]
        exact ⟨rfl, (unhide HK1).alloc _, (unhide HB1).alloc (unhide HB1).size _⟩
      have b3i : ¬ (5000 : Int) < (tx.size : Int) := by omega
      have b3' : decide ((5000 : Int) < (tx.size : Int)) = false := decide_eq_false b3i
      by_cases b4 : 100 < n.size
      · have b4i : (100 : Int) < (n.size : Int) := by omega
        have HE : Hid (res = (true, N1 - 1)) := hide (by rw [← unhide HR, lgL, if_pos (Or.inr (Or.inr (Or.inr b4)))])
        clear HR CK hk hb
        go_wp2
        go_ret
        rw [unhide HE]
        exact ⟨rfl, (unhide HK1).alloc _, (unhide HB1).alloc (unhide HB1).size _⟩
      have b4i : ¬ (100 : Int) < (n.size : Int) := by omega
      have hnot : ¬ (N1 - 1 < 0 ∨ 40 < ats.length ∨ 5000 < tx.size ∨ 100 < n.size) := by omega
      have hq : Int.tdiv (tx.size : Int) 16 = ((tx.size / 16 : Nat) : Int) := by simp [Int.tdiv]
      have hq0 : tx.size / 16 ≤ 313 := by omega
      have HNOT := hide hnot
      clear hnot
      generalize hx16 : tx.size / 16 = x16 at *
      have hw2 : IntKind.i64.wrap (N1 - 1 - (x16 : Int)) = N1 - 1 - (x16 : Int) := by rw [IntKind.wrap_i64]; omega
      have hw3 : IntKind.i64.wrap (N1 - 1 - (x16 : Int) - (ats.length : Int)) = N1 - 1 - (x16 : Int) - (ats.length : Int) := by rw [IntKind.wrap_i64]; omega
      have K2 : Hid (Blk ((((wr.setCell ⟨pr, 0, none⟩ (.int .i64 (N1 - 1))).setCell ⟨pr, 0, none⟩ (.int .i64 (N1 - 1 - (x16 : Int) - (ats.length : Int)))).alloc (Obj.cells #[.int .i64 k, .int .i64 sp, .string n, .slice qa ats.length ca, .string tx, .slice qk kids.len ck] 44)).drew) pr #[.int .i64 (N1 - 1 - (x16 : Int) - (ats.length : Int))] 60) := hide ((((unhide HK1).set 0 (by simp) (.int .i64 (N1 - 1 - (x16 : Int) - (ats.length : Int)))).alloc _).later (below_draws _ 1))
      have Ba : Below w0.heap.size w0 ((wr.setCell ⟨pr, 0, none⟩ (.int .i64 (N1 - 1))).setCell ⟨pr, 0, none⟩ (.int .i64 (N1 - 1 - (x16 : Int) - (ats.length : Int)))) := (unhide HB1).setCell hpr _
      have B2 : Hid (Below w0.heap.size w0 ((((wr.setCell ⟨pr, 0, none⟩ (.int .i64 (N1 - 1))).setCell ⟨pr, 0, none⟩ (.int .i64 (N1 - 1 - (x16 : Int) - (ats.length : Int)))).alloc (Obj.cells #[.int .i64 k, .int .i64 sp, .string n, .slice qa ats.length ca, .string tx, .slice qk kids.len ck] 44)).drew)) := hide ((Ba.alloc Ba.size _).drew)
      have KX : Hid (Blk ((((wr.setCell ⟨pr, 0, none⟩ (.int .i64 (N1 - 1))).setCell ⟨pr, 0, none⟩ (.int .i64 (N1 - 1 - (x16 : Int) - (ats.length : Int)))).alloc (Obj.cells #[.int .i64 k, .int .i64 sp, .string n, .slice qa ats.length ca, .string tx, .slice qk kids.len ck] 44)).drew) wr.heap.size #[.int .i64 k, .int .i64 sp, .string n, .slice qa ats.length ca, .string tx, .slice qk kids.len ck] 44) := hide (by
        have h1 := (Blk.new ((wr.setCell ⟨pr, 0, none⟩ (.int .i64 (N1 - 1))).setCell ⟨pr, 0, none⟩ (.int .i64 (N1 - 1 - (x16 : Int) - (ats.length : Int)))) #[.int .i64 k, .int .i64 sp, .string n, .slice qa ats.length ca, .string tx, .slice qk kids.len ck] 44).later (below_draws _ 1)
        rw [show ((wr.setCell ⟨pr, 0, none⟩ (.int .i64 (N1 - 1))).setCell ⟨pr, 0, none⟩ (.int .i64 (N1 - 1 - (x16 : Int) - (ats.length : Int)))).heap.size = wr.heap.size by simp] at h1
        exact h1)
      clear Ba
      have HLN : Hid (lgN N1 tx ats = N1 - 1 - (x16 : Int) - (ats.length : Int)) := hide (by unfold lgN; rw [hx16])
      go_wp2
      go_region
      generalize ((((wr.setCell ⟨pr, 0, none⟩ (.int .i64 (N1 - 1))).setCell ⟨pr, 0, none⟩ (.int .i64 (N1 - 1 - (x16 : Int) - (ats.length : Int)))).alloc (Obj.cells #[.int .i64 k, .int .i64 sp, .string n, .slice qa ats.length ca, .string tx, .slice qk kids.len ck] 44)).drew) = W2 at *
      have x3 : W2.cell? ⟨wr.heap.size, 3, none⟩ = some (.slice qa ats.length ca) := (unhide KX).cell 3
      clear hk hb HK1 HB1 c0 c1 c2 c3 c4 c5 p0 pf hw1 hw2 hw3 b1' b2' b3' hq
      generalize wr.heap.size = b8 at *
      obtain ⟨al, hal⟩ : ∃ al, ats.length = al := ⟨_, rfl⟩
      have HAL := hide hal
      rw [hal] at x3
      rw [hal]
      go_wp2
      go_loopw [74] (fun b wr2 => ∃ i : Nat, i ≤ al ∧ b = .int .i64 i ∧ (ats.take i).any lgA = false ∧ Below W2.heap.size W2 wr2) (fun b _ => al - (intOf b).toNat)
      case atStart => exact ⟨0, Nat.zero_le _, rfl, rfl, Below.refl _ _⟩
      case round =>
        obtain ⟨i, hi, rfl, hany, hbi⟩ := hrel
        have HBI := hide hbi
        have HANY := hide hany
        by_cases hlt : i < al
        · have hlti : (i : Int) < (al : Int) := by omega
          have hila : i < ats.length := by rw [unhide HAL]; exact hlt
          rcases unhide HSL with hnil | ⟨ga, oa, hqa, hcs⟩
          · rw [hnil] at hila; simp at hila
          subst hqa
          obtain ⟨y0, y1⟩ := ((hcs.below (unhide B2)).below hbi) i hila
          have HST := hide (any_take ats i hila)
          have HAA := hide (any_at ats i hila)
          have hlg : lgA (ats.getD i (⟨#[]⟩, ⟨#[]⟩)) = (decide (100 < (an ats i).size) || decide (2000 < (av ats i).size)) := rfl
          rw [hlg] at HST HAA
          generalize an ats i = ya at *
          generalize av ats i = yb at *
          have KX5 := hide ((unhide K2).later hbi)
          have B5 := hide ((unhide B2).trans (hbi.mono (unhide B2).size))
          clear hcs hila hlg hbi hany x3
          by_cases z1 : 100 < ya.size
          · have z1i : (100 : Int) < (ya.size : Int) := by omega
            have HE : Hid (res = (true, N1 - 1 - (x16 : Int) - (ats.length : Int))) := hide (by rw [← unhide HR, lgL, if_neg (unhide HNOT), if_pos (unhide HAA (by simp [z1])), unhide HLN])
            go_wp2
            go_ret
            rw [unhide HE]
            exact ⟨rfl, (unhide KX5).alloc _, (unhide B5).alloc (unhide B5).size _⟩
          have z1i : ¬ (100 : Int) < (ya.size : Int) := by omega
          have z1' : decide ((100 : Int) < (ya.size : Int)) = false := decide_eq_false z1i
          by_cases z2 : 2000 < yb.size
          · have z2i : (2000 : Int) < (yb.size : Int) := by omega
            have HE : Hid (res = (true, N1 - 1 - (x16 : Int) - (ats.length : Int))) := hide (by rw [← unhide HR, lgL, if_neg (unhide HNOT), if_pos (unhide HAA (by simp [z2])), unhide HLN])
            go_wp2
            go_ret
            rw [unhide HE]
            exact ⟨rfl, (unhide KX5).alloc _, (unhide B5).alloc (unhide B5).size _⟩
          have z2i : ¬ (2000 : Int) < (yb.size : Int) := by omega
          have HB6 : Hid (Below W2.heap.size W2 (wr.alloc (Obj.cells #[.string ya, .string yb] 112))) := hide (tr2 (unhide HBI) ((Below.refl _ _).alloc (Nat.le_refl _) _))
          have HA7 : Hid ((ats.take (i + 1)).any lgA = false) := hide (by rw [unhide HST, unhide HANY]; simp [z1, z2])
          go_wp2
          go_roundw
          case rel => exact ⟨i + 1, by omega, by go_num, unhide HA7, unhide HB6⟩
          case measure => simp [intOf]; omega
        · have hia : i = al := by omega
          have hlti : ¬ (i : Int) < (al : Int) := by omega
          have hanyF : ats.any lgA = false := by have := unhide HANY; rw [hia, ← unhide HAL, List.take_length] at this; exact this
          have KX5 := hide ((unhide K2).later hbi)
          have KN := hide ((unhide KX).later hbi)
          have B5 := hide ((unhide B2).trans (hbi.mono (unhide B2).size))
          have x5 : wr.cell? ⟨b8, 5, none⟩ = some (.slice qk kids.len ck) := (unhide KN).cell 5
          have CK1 := hide (unhide CK qk ck (N1 - 1 - (x16 : Int) - (ats.length : Int)) wr ⟨by rw [unhide HAL]; omega, by omega⟩ (unhide HFO) (unhide B5) (unhide KX5))
          rw [show ((d + 1 : Nat) : Int) = (d : Int) + 1 by omega] at CK1
          have HCO := hide (lgL_cons d k sp n ats tx kids (f.drop (j + 1)) N1 (unhide HNOT) hanyF)
          have HRM := hide (lgT_room (d + 1) kids (lgN N1 tx ats))
          have HLE := hide (lgT_le (d + 1) kids (lgN N1 tx ats))
          rw [unhide HLN] at HCO HRM HLE
          have hwd : IntKind.i64.wrap ((d : Int) + 1) = (d : Int) + 1 := by rw [IntKind.wrap_i64]; omega
          generalize lgT (d + 1) kids (N1 - 1 - (x16 : Int) - (ats.length : Int)) = rr at *
          obtain ⟨rb, rN⟩ := rr
          generalize kids.len = kl at *
          clear hbi hany x3 hanyF CK
          dsimp only at *
          go_wp2_with fail
          refine (unhide CK1).mono ?_
          rintro e w5 ⟨rfl, hk5, hb5⟩
          have HX5 := hide (And.intro hk5 hb5)
          clear hk5 hb5
          cases rb with
          | true =>
            have HE : Hid (res = (true, rN)) := hide (by rw [← unhide HR, unhide HCO]; simp)
            go_wp2
            go_ret
            rw [unhide HE]
            exact ⟨rfl, unhide HX5⟩
          | false =>
            have HE : Hid (lgL d (f.drop (j + 1)) rN = res) := hide (by rw [← unhide HR, unhide HCO]; simp)
            have h01 : 0 ≤ rN := unhide HRM rN rfl
            have h02 : rN ≤ N1 - 1 - (x16 : Int) - (ats.length : Int) := unhide HLE
            go_wp2
            go_roundw
            case rel => exact ⟨j + 1, rN, by omega, by go_num, unhide HE, by omega, by omega, (unhide HX5).1, (unhide HX5).2⟩
            case measure => simp [intOf]; omega
    · have hpi : ¬ (j : Int) < (f.len : Int) := by omega
      rw [f.drop_out j (by omega), lgL] at hr
      have c0 : wr.cell? ⟨pr, 0, none⟩ = some (.int .i64 N1) := hk.cell 0
      have HX := hide (And.intro hk hb)
      have HR := hide hr
      clear hk hb hr hp
      go_wp2
      go_ret
      rw [← unhide HR]
      exact ⟨rfl, unhide HX⟩
theorem large_any : ∀ (m : Nat) (f : Forest), f.count ≤ m → ∀ (d : Nat) (q : Option Addr) (cap pr : Nat) (N : Int) (w0 W : World), d ≤ 61 → w0.heap.size ≤ pr → -1000 ≤ N ∧ N ≤ 1200 → Fo q f w0 → Below w0.heap.size w0 W → Blk W pr #[.int .i64 N] 60 →
    Calls Tryd.prog 27 #[.slice q f.len cap, .pointer (some ⟨pr, 0, none⟩), .int .i64 (d : Int)] W (LgSaid w0 pr (lgT d f N))
  | m, f, hm, d, q, cap, pr, N, w0, W, hd, hpr, hN, hf, hb, hk => by
    unfold lgT
    by_cases ht : 60 < d ∨ 500 < f.len
    · rw [if_pos ht]
      exact large_top q f.len cap pr d N w0 W hd ht hb hk
    · rw [if_neg ht]
      rcases hf with rfl | ⟨g, o, rfl, hl⟩
      · exact large_none q cap pr d N w0 W (by omega) hb hk
      · by_cases h0 : f.len = 0
        · have hn : f = .nil := by cases f with | nil => rfl | cons _ _ _ _ _ _ r => simp [Forest.len] at h0
          subst hn
          exact large_none _ cap pr d N w0 W (by omega) hb hk
        refine large_some f g o cap pr d N _ w0 W (by omega) (by omega) (by omega) hl hpr hN hb hk rfl (hide fun j k sp n ats tx kids hdr q' cap' N' W' hN' hf' hb' hk' => ?_)
        have h1 : (f.drop j).count ≤ f.count := f.count_drop j
        rw [hdr] at h1
        have h2 : 1 + kids.count + (f.drop (j + 1)).count ≤ f.count := h1
        match m, hm with
        | 0, hm => omega
        | m + 1, hm => exact large_any m kids (by omega) (d + 1) q' cap' pr N' w0 W' (by omega) hpr hN' hf' hb' hk'
end Go.Proofs.YtbabmkilbbbmoaaDoor

/-
  'tree.Check': 'tree.walk' under its closure (made by mk_yck.py).
-/
namespace Go.Proofs.YtbabmkilbbbmoaaDoor
open Go.RowKit
set_option linter.unusedVariables false
set_option linter.unusedSimpArgs false

/-- Nodes of which none is great. -/
def SmF : Forest → Prop
  | .nil => True
  | .cons k sp n ats tx kids rest => (tx.size ≤ 5000 ∧ n.size ≤ 5000 ∧ Fits ats ∧ kids.count ≤ 1000000) ∧ SmF kids ∧ SmF rest
def StackOkS (w0 : World) (st : List Entry) : Prop := ∀ e ∈ st, Fo e.2.1 e.1 w0 ∧ e.1.len ≤ e.2.2 ∧ SmF e.1
def WalkAtS {σ : Type} (stp : σ → Item → σ × Bool) (Inv : σ → World → Prop) (w0 : World) (B1 : Nat) (fin : σ) (gk : Nat) (left : Value) (wr : World) : Prop :=
  ∃ (st : List Entry) (s : σ), cnt st ≤ 1000000 ∧ st.length + cnt st ≤ 1000001 ∧ 2 * cnt st + st.length = gk ∧ StackOkS w0 st ∧ wr.ownsRow B1 22 1 left st.length (rowOf st) ∧ tell stp s (todo (st.map (·.1))) = fin ∧ Inv s wr ∧ Below w0.heap.size w0 wr ∧ B1 ≤ wr.heap.size
theorem any_false {ats : List (ByteArray × ByteArray)} (h : ats.any lgA = false) (k : Nat) (hk : k < ats.length) : (an ats k).size ≤ 100 ∧ (av ats k).size ≤ 2000 := by
  have h1 := List.any_eq_false.1 h ats[k] (List.getElem_mem hk)
  have h2 : lgA ats[k] = false := by simpa using h1
  unfold lgA at h2
  have h3 : ats.getD k (ByteArray.empty, ByteArray.empty) = ats[k] := by simp [List.getD, List.getElem?_eq_getElem hk]
  unfold an av
  rw [h3]
  simp at h2
  omega
theorem lgT_split {d : Nat} {f : Forest} {N N' : Int} (h : lgT d f N = (false, N')) : lgL d f N = (false, N') := by
  unfold lgT at h
  split at h
  · injection h with h1; cases h1
  · exact h
/-- What is not large is small, and there is room for all of it. -/
theorem lgL_small : ∀ (f : Forest) (d : Nat) (N N' : Int), N ≤ 1200 → lgL d f N = (false, N') → SmF f ∧ N' + (f.count : Int) ≤ N
  | .nil, d, N, N', hN, h => by
    rw [lgL] at h
    injection h with h1 h2
    exact ⟨trivial, by rw [← h2]; simp [Forest.count]⟩
  | .cons k sp n ats tx kids rest, d, N, N', hN, h => by
    by_cases h1 : N - 1 < 0 ∨ 40 < ats.length ∨ 5000 < tx.size ∨ 100 < n.size
    · rw [lgL, if_pos h1] at h; injection h with h1; cases h1
    · cases ha : ats.any lgA with
      | true => rw [lgL, if_neg h1, if_pos ha] at h; injection h with h1; cases h1
      | false =>
        rw [lgL_cons d k sp n ats tx kids rest N h1 ha] at h
        obtain ⟨r, hr⟩ : ∃ r, lgT (d + 1) kids (lgN N tx ats) = r := ⟨_, rfl⟩
        rw [hr] at h
        obtain ⟨rb, rN⟩ := r
        cases rb with
        | true => rw [if_pos rfl] at h; injection h with h1; cases h1
        | false =>
          rw [if_neg (by simp)] at h
          have hle := lgN_le N tx ats
          have hrm := lgT_room (d + 1) kids _ rN hr
          obtain ⟨s1, c1⟩ := lgL_small kids (d + 1) _ _ (by omega) (lgT_split hr)
          obtain ⟨s2, c2⟩ := lgL_small rest d _ _ (by omega) h
          refine ⟨⟨⟨by omega, by omega, ⟨by omega, fun k hk => ?_⟩, by omega⟩, s1, s2⟩, ?_⟩
          · have := any_false ha k hk; omega
          · have : lgN N tx ats ≤ N - 1 := by
              unfold lgN
              have : (0 : Int) ≤ ((tx.size / 16 : Nat) : Int) := Int.natCast_nonneg _
              omega
            simp only [Forest.count]
            omega
theorem lgT_small {d : Nat} {f : Forest} {N N' : Int} (hN : N ≤ 1200) (h : lgT d f N = (false, N')) : SmF f ∧ N' + (f.count : Int) ≤ N := lgL_small f d N N' hN (lgT_split h)

def ckStep (b : Bool) (it : Item) : Bool × Bool := (b && (raB it.k it.sp it.n it.ats it.tx it.kids.len && apartB it.kids), b && (raB it.k it.sp it.n it.ats it.tx it.kids.len && apartB it.kids))
def CkAt (G : Nat) (b : Bool) (w : World) : Prop := Blk w G #[.bool b] 4
def checkN (f : Forest) : Int := if greatB f = true then 2 else if tell ckStep (apartB f) (items f 1) = true then 0 else 4
end Go.Proofs.YtbabmkilbbbmoaaDoor

/-
  'tree.Words': 'tree.walk' under its closure (made by mk_yww.py): the closure and the walk keep apart because their rows are of other types.
-/
namespace Go.Proofs.YtbabmkilbbbmoaaDoor
open Go.RowKit
set_option linter.unusedVariables false
set_option linter.unusedSimpArgs false

/-- Rows of lists of nodes stand as they stood. -/
def KeepN (w w' : World) : Prop := w.heap.size ≤ w'.heap.size ∧ ∀ (b : Nat) (c : Array Value), w.heap[b]? = some (Obj.cells c 22 (0, 0)) → w'.heap[b]? = some (Obj.cells c 22 (0, 0))
theorem ownsRow_keep {w w' : World} {base : Nat} {size : Nat} {v : Value} {n : Nat} {xs : List Value} (h : w.ownsRow base 22 size v n xs) (hs : KeepN w w') : w'.ownsRow base 22 size v n xs := by
  obtain ⟨hl, h⟩ := h
  refine ⟨hl, ?_⟩
  rcases h with h | ⟨g, cap, cur, h1, h2, h3, h4, h5, h6, h7⟩
  · exact .inl h
  · exact .inr ⟨g, cap, cur, h1, h2, hs.2 _ _ h3, h4, h5, h6, h7⟩
theorem row_ty {w : World} {base : Nat} {e : TypeId} {size : Nat} {b cap0 n : Nat} {xs : List Value} (h : w.ownsRow base e size (.slice (some ⟨b, 0, none⟩) n cap0) n xs) : ∃ c, w.heap[b]? = some (.cells c e (0, 0)) := by
  rcases h.2 with ⟨h, h0⟩ | ⟨g, cap, cur, h1, h2, h3, _⟩
  · cases h
  · injection h1 with h1
    injection h1 with h1
    injection h1 with h1
    subst h1
    exact ⟨cur, h3⟩
theorem kept_set {w : World} {b o : Nat} {e : TypeId} (h : ∃ c, w.heap[b]? = some (.cells c e (0, 0))) (v : Value) : Lib.OthersKept e none w (w.setCell ⟨b, o, none⟩ v) := by
  intro k x hk _ hx
  by_cases hkb : k = b
  · subst hkb
    obtain ⟨c, hc⟩ := h
    rw [hc] at hk
    injection hk with hk
    exact absurd hk.symm (hx _ _)
  · exact (Below.heap_setCell w ⟨b, o, none⟩ v k hkb).trans hk

/-! ### tree.Words -/
theorem bldF_kept {B b : Nat} {l : List UInt8} {w w1 : World} (h : BldF B b l w) (hk : Lib.OthersKept 22 none w w1) : BldF B b l w1 := by
  have one : ∀ p, Lib.BuilderAtF 122 5 B b p (Lib.byteCells l) w → Lib.BuilderAtF 122 5 B b p (Lib.byteCells l) w1 := by
    intro p h
    obtain ⟨hB, v, hbk, hown, hne⟩ := h
    refine ⟨hB, v, hk _ _ hbk (by simp) (fun c fz e => by injection e with _ e; revert e; decide), ?_, hne⟩
    obtain ⟨hl, h⟩ := hown
    refine ⟨hl, ?_⟩
    rcases h with h | ⟨g, cap, cur, fz, h1, h2, h3, h4⟩
    · exact .inl h
    · exact .inr ⟨g, cap, cur, fz, h1, h2, hk _ _ h3 (by simp) (fun c fz e => by injection e with _ e; revert e; decide), h4⟩
  rcases h with h | h
  · exact .inl (one _ h)
  · exact .inr (one _ h)
theorem bldF_blk {B b : Nat} {l : List UInt8} {w : World} (h : BldF B b l w) : ∃ c, w.heap[b]? = some (.cells c 122 (0, 0)) := by
  rcases h with ⟨_, v, hbk, _⟩ | ⟨_, v, hbk, _⟩
  · exact ⟨_, hbk⟩
  · exact ⟨_, hbk⟩
theorem keepN_of {B b : Nat} {l : List UInt8} {w w' : World} (h : BldF B b l w) (hb : Below B w w') (ho : Oth b w w') : KeepN w w' := by
  refine ⟨hb.size, fun k c hk => ho k _ hk ?_ ?_⟩
  · intro e
    obtain ⟨c', hc'⟩ := bldF_blk h
    injection e with e
    rw [e, hc'] at hk
    injection hk with hk
    injection hk with _ hk
    revert hk; decide
  · intro c' fz e
    injection e with _ e
    revert e; decide
def woStep (l : List UInt8) (it : Item) : List UInt8 × Bool := (if it.k = 2 then l ++ it.tx.data.toList else l, true)
def woF : Forest → List UInt8
  | .nil => []
  | .cons k sp n ats tx kids rest => (if k = 2 then tx.data.toList else []) ++ (woF kids ++ woF rest)
theorem tell_wo_app : ∀ (l1 l2 : List Item) (s : List UInt8), tell woStep s (l1 ++ l2) = tell woStep (tell woStep s l1) l2
  | [], l2, s => rfl
  | it :: l1, l2, s => by
    show tell woStep (woStep s it).1 (l1 ++ l2) = tell woStep (tell woStep (woStep s it).1 l1) l2
    exact tell_wo_app l1 l2 _
theorem tell_wo : ∀ (f : Forest) (d : Nat) (s : List UInt8), tell woStep s (items f d) = s ++ woF f
  | .nil, d, s => by show s = s ++ []; simp
  | .cons k sp n ats tx kids rest, d, s => by
    show tell woStep (if k = 2 then s ++ tx.data.toList else s) (items kids (d + 1) ++ items rest d) = _
    rw [tell_wo_app, tell_wo kids, tell_wo rest, woF]
    show (if k = 2 then s ++ tx.data.toList else s) ++ woF kids ++ woF rest = _
    by_cases h : k = 2
    · rw [if_pos h, if_pos h]; simp [List.append_assoc]
    · rw [if_neg h, if_neg h]; simp [List.append_assoc]
theorem tell_wo_len : ∀ (l : List Item) (s : List UInt8), s.length ≤ (tell woStep s l).length
  | [], s => Nat.le_refl _
  | it :: l, s => by
    show s.length ≤ (tell woStep (woStep s it).1 l).length
    refine Nat.le_trans ?_ (tell_wo_len l _)
    show s.length ≤ (if it.k = 2 then s ++ it.tx.data.toList else s).length
    split <;> simp
theorem wo_len : ∀ (f : Forest), SmF f → (woF f).length ≤ 5000 * f.count
  | .nil, _ => by simp [woF]
  | .cons k sp n ats tx kids rest, h => by
    have h1 := wo_len kids h.2.1
    have h2 := wo_len rest h.2.2
    have h3 := h.1.1
    have h4 : tx.data.toList.length = tx.size := by rw [Array.length_toList]; rfl
    rw [woF, List.length_append, List.length_append]
    simp only [Forest.count]
    split
    · omega
    · rw [List.length_nil]; omega
end Go.Proofs.YtbabmkilbbbmoaaDoor
