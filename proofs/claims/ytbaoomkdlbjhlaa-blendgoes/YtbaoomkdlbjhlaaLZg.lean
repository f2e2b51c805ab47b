/-
  The law BlendGoes.
-/
import Derived.Test.YtbaoomkdlbjhlaaZFo
import Derived.Test.YtbaoomkdlbjhlaaZTx
import Derived.Deep.RegionWith
namespace Go.Proofs.Ytbaoomkdlbjhlaa
open Go.RowKit
set_option linter.unusedVariables false
set_option linter.unusedSimpArgs false

set_option maxHeartbeats 2000000 in
theorem blendGoes_great (qo : Option Addr) (co : Nat) (o : List ByteArray) (qa : Option Addr) (ca : Nat) (a : List ByteArray) (qb : Option Addr) (cb : Nat) (b : List ByteArray) (w : World) (lo : o.length ≤ 9223372036854775807) (la : a.length ≤ 9223372036854775807) (lb : b.length ≤ 9223372036854775807) (h : 40 < o.length ∨ 40 < a.length ∨ 40 < b.length) :
    Calls Try.prog 4 #[.slice qo o.length co, .slice qa a.length ca, .slice qb b.length cb] w fun e w' => e = .returned (.bool true) ∧ Below w.heap.size w w' := by
  have CF := hide (fun W => four_any W)
  have Co := hide (fun W => long25_any qo o.length co W lo)
  have Ca := hide (fun W => long25_any qa a.length ca W la)
  have Cb := hide (fun W => long25_any qb b.length cb W lb)
  by_cases go : 40 < o.length
  · rw [decide_eq_true go] at Co
    go_enter Try.func4, Try.ntmps4
    go_wp2_with fail
    refine (unhide Co _).mono ?_
    rintro e w1 ⟨rfl, hb1⟩
    have HB1 := hide hb1
    clear hb1
    go_wp2_with fail
    refine (unhide CF _).mono ?_
    rintro e w9 ⟨rfl, hb9⟩
    have HB9 := hide (tr2 (unhide HB1) hb9)
    clear hb9
    go_wp2
    go_ret
    exact ⟨rfl, unhide HB9⟩
  · by_cases ga : 40 < a.length
    · rw [decide_eq_false go] at Co
      rw [decide_eq_true ga] at Ca
      go_enter Try.func4, Try.ntmps4
      go_wp2_with fail
      refine (unhide Co _).mono ?_
      rintro e w1 ⟨rfl, hb1⟩
      have HB1 := hide hb1
      clear hb1
      go_wp2_with fail
      refine (unhide Ca _).mono ?_
      rintro e w2 ⟨rfl, hb2⟩
      have HB2 := hide (tr2 (unhide HB1) hb2)
      clear hb2
      go_wp2_with fail
      refine (unhide CF _).mono ?_
      rintro e w9 ⟨rfl, hb9⟩
      have HB9 := hide (tr2 (unhide HB2) hb9)
      clear hb9
      go_wp2
      go_ret
      exact ⟨rfl, unhide HB9⟩
    · have gb : 40 < b.length := by omega
      rw [decide_eq_false go] at Co
      rw [decide_eq_false ga] at Ca
      rw [decide_eq_true gb] at Cb
      go_enter Try.func4, Try.ntmps4
      go_wp2_with fail
      refine (unhide Co _).mono ?_
      rintro e w1 ⟨rfl, hb1⟩
      have HB1 := hide hb1
      clear hb1
      go_wp2_with fail
      refine (unhide Ca _).mono ?_
      rintro e w2 ⟨rfl, hb2⟩
      have HB2 := hide (tr2 (unhide HB1) hb2)
      clear hb2
      go_wp2_with fail
      refine (unhide Cb _).mono ?_
      rintro e w3 ⟨rfl, hb3⟩
      have HB3 := hide (tr2 (unhide HB2) hb3)
      clear hb3
      go_wp2_with fail
      refine (unhide CF _).mono ?_
      rintro e w9 ⟨rfl, hb9⟩
      have HB9 := hide (tr2 (unhide HB3) hb9)
      clear hb9
      go_wp2
      go_ret
      exact ⟨rfl, unhide HB9⟩
theorem goP_cons {n a b i j k : Nat} {P : List PT} {m : Nat} (hm : m < P.length) (h : GoP n a b i j k (P.drop m)) : 1 ≤ (P.getD m p7).1 ∧ (P.getD m p7).1 ≤ 5 ∧ (P.getD m p7).2.1.1 = i ∧ (P.getD m p7).2.2.1.1 = j ∧ (P.getD m p7).2.2.2.1 = k ∧ i ≤ (P.getD m p7).2.1.2 ∧ j ≤ (P.getD m p7).2.2.1.2 ∧ k ≤ (P.getD m p7).2.2.2.2 ∧ ¬ ((P.getD m p7).2.1.2 = i ∧ (P.getD m p7).2.2.1.2 = j ∧ (P.getD m p7).2.2.2.2 = k) ∧ (P.getD m p7).2.1.2 ≤ n ∧ (P.getD m p7).2.2.1.2 ≤ a ∧ (P.getD m p7).2.2.2.2 ≤ b ∧ GoP n a b (P.getD m p7).2.1.2 (P.getD m p7).2.2.1.2 (P.getD m p7).2.2.2.2 (P.drop (m + 1)) := by
  rw [List.drop_eq_getElem_cons hm] at h
  rw [List.getD, List.getElem?_eq_getElem hm]
  exact h
set_option maxHeartbeats 4000000 in
set_option maxRecDepth 100000 in
theorem blendGoes_small (qo qa qb : Option Addr) (co ca cb : Nat) (o a b : List ByteArray) (w : World) (ho : ArgV w qo co o) (ha : ArgV w qa ca a) (hb : ArgV w qb cb b) (so : SzT o) (sa : SzT a) (sb : SzT b) (lo : o.length ≤ 40) (la : a.length ≤ 40) (lb : b.length ≤ 40) :
    Calls Try.prog 4 #[.slice qo o.length co, .slice qa a.length ca, .slice qb b.length cb] w fun e w' => e = .returned (.bool true) ∧ Below w.heap.size w w' := by
  have CF := hide (fun W => four_any W)
  have Co := hide (fun W => long25_any qo o.length co W (by omega))
  rw [decide_eq_false (by omega)] at Co
  have Ca := hide (fun W => long25_any qa a.length ca W (by omega))
  rw [decide_eq_false (by omega)] at Ca
  have Cb := hide (fun W => long25_any qb b.length cb W (by omega))
  rw [decide_eq_false (by omega)] at Cb
  have CT := hide (fun W (hW : Below w.heap.size w W) => btexts_any qo qa qb co ca cb o a b W (ho.below hW) (ha.below hW) (hb.below hW) so sa sb (by omega) (by omega) (by omega))
  have HGO := hide (allP_go o a b)
  have hPl := allP_len o a b
  generalize allP o a b = P at *
  clear ho ha hb
  go_enter Try.func4, Try.ntmps4
  go_wp2_with fail
  refine (unhide Co _).mono ?_
  rintro e w1 ⟨rfl, hb1⟩
  have HB1 := hide hb1
  clear hb1 Co
  go_wp2_with fail
  refine (unhide Ca _).mono ?_
  rintro e w2 ⟨rfl, hb2⟩
  have HB2 := hide (tr2 (unhide HB1) hb2)
  clear hb2 Ca
  go_wp2_with fail
  refine (unhide Cb _).mono ?_
  rintro e w3 ⟨rfl, hb3⟩
  have HB3 := hide (tr2 (unhide HB2) hb3)
  clear hb3 Cb
  go_wp2_with fail
  refine (unhide CT _ (unhide HB3)).mono ?_
  rintro e w4 ⟨u, rfl, hu, hb4⟩
  obtain ⟨q, c, rfl, hat⟩ := parts_at hu
  have HA := hide hat
  have HB4 := hide (tr2 (unhide HB3) hb4)
  clear hu hb4 hat CT HB1 HB2 HB3
  go_wp2
  go_loopw [28, 7, 8, 9] (fun x iv jv kv wr => ∃ m i j k : Nat, m ≤ P.length ∧ x = .int .i64 (m : Int) ∧ iv = .int .i64 (i : Int) ∧ jv = .int .i64 (j : Int) ∧ kv = .int .i64 (k : Int) ∧ GoP o.length a.length b.length i j k (P.drop m) ∧ Below w4.heap.size w4 wr) (fun x _ _ _ _ => P.length - (intOf x).toNat)
  case atStart => exact ⟨0, 0, 0, 0, Nat.zero_le _, rfl, rfl, rfl, rfl, unhide HGO, Below.refl _ _⟩
  case round =>
    clear HGO
    obtain ⟨m, i, j, k, hm, rfl, rfl, rfl, rfl, hgo, hbl⟩ := hrel
    have hz := hbl.size
    by_cases hp : m < P.length
    · have hpi : (m : Int) < (P.length : Int) := by omega
      obtain ⟨g, rfl, hcell⟩ := (unhide HA).below hbl (by omega)
      have hck := hcell m hp
      have hgc := goP_cons hp hgo
      generalize P.getD m p7 = t at *
      obtain ⟨kd, ⟨o1, o2⟩, ⟨a1, a2⟩, ⟨b1, b2⟩⟩ := t
      have k0 : wr.cell? ⟨g, m * 7, none⟩ = some (.int .i64 (kd : Int)) := hck 0 (by decide)
      have k1 : wr.cell? ⟨g, m * 7 + 1, none⟩ = some (.int .i64 (o1 : Int)) := hck 1 (by decide)
      have k2 : wr.cell? ⟨g, m * 7 + 2, none⟩ = some (.int .i64 (o2 : Int)) := hck 2 (by decide)
      have k3 : wr.cell? ⟨g, m * 7 + 3, none⟩ = some (.int .i64 (a1 : Int)) := hck 3 (by decide)
      have k4 : wr.cell? ⟨g, m * 7 + 4, none⟩ = some (.int .i64 (a2 : Int)) := hck 4 (by decide)
      have k5 : wr.cell? ⟨g, m * 7 + 5, none⟩ = some (.int .i64 (b1 : Int)) := hck 5 (by decide)
      have k6 : wr.cell? ⟨g, m * 7 + 6, none⟩ = some (.int .i64 (b2 : Int)) := hck 6 (by decide)
      dsimp only at hgc
      obtain ⟨x1, x2, rfl, rfl, rfl, x6, x7, x8, x9, y1, y2, y3, y4⟩ := hgc
      have HG := hide y4
      have n1 : ¬ (o2 : Int) < (o1 : Int) := by omega
      have n2 : ¬ (a2 : Int) < (a1 : Int) := by omega
      have n3 : ¬ (b2 : Int) < (b1 : Int) := by omega
      have n4 : ¬ (kd : Int) < 1 := by omega
      have n5 : ¬ (5 : Int) < (kd : Int) := by omega
      have hx : (¬ o2 = o1) ∨ (o2 = o1 ∧ ¬ a2 = a1) ∨ (o2 = o1 ∧ a2 = a1 ∧ ¬ b2 = b1) := by
        by_cases e1 : o2 = o1
        · by_cases e2 : a2 = a1
          · exact .inr (.inr ⟨e1, e2, fun e3 => x9 ⟨e1, e2, e3⟩⟩)
          · exact .inr (.inl ⟨e1, e2⟩)
        · exact .inl e1
      have HBL := hide hbl
      clear hck hcell hgo y4 x9 hbl
      rcases hx with e | ⟨e0, e⟩ | ⟨e0, e1, e⟩
      case' inl =>
        have ei : ((o2 : Int) == (o1 : Int)) = false := beq_eq_false_iff_ne.2 (by omega)
      case' inr.inl =>
        have ei : ((o2 : Int) == (o1 : Int)) = true := beq_iff_eq.2 (by omega)
        have ej : ((a2 : Int) == (a1 : Int)) = false := beq_eq_false_iff_ne.2 (by omega)
        clear e0
      case' inr.inr =>
        have ei : ((o2 : Int) == (o1 : Int)) = true := beq_iff_eq.2 (by omega)
        have ej : ((a2 : Int) == (a1 : Int)) = true := beq_iff_eq.2 (by omega)
        have ek : ((b2 : Int) == (b1 : Int)) = false := beq_eq_false_iff_ne.2 (by omega)
        clear e0 e1
      all_goals (
        go_wp2
        go_roundw
        case rel => exact ⟨m + 1, o2, a2, b2, by omega, by go_num, rfl, rfl, rfl, unhide HG, (unhide HBL).alloc hz _⟩
        case measure => simp [intOf]; omega)
    · have hpi : ¬ (m : Int) < (P.length : Int) := by omega
      have hme : P.drop m = [] := List.drop_eq_nil_of_le (by omega)
      rw [hme] at hgo
      obtain ⟨rfl, rfl, rfl⟩ := hgo
      have HB9 := hide (tr2 (unhide HB4) hbl)
      clear hme hbl
      go_wp2_with fail
      refine (unhide CF _).mono ?_
      rintro e w9 ⟨rfl, hb9⟩
      have HBX := hide (tr2 (unhide HB9) hb9)
      clear hb9
      go_wp2
      go_ret
      exact ⟨rfl, unhide HBX⟩
theorem blendGoes_walk (qo qa qb : Option Addr) (co ca cb : Nat) (o a b : List ByteArray) (w : World) (ho : ArgV w qo co o) (ha : ArgV w qa ca a) (hb : ArgV w qb cb b) (so : SzT o) (sa : SzT a) (sb : SzT b) :
    Calls Try.prog 4 #[.slice qo o.length co, .slice qa a.length ca, .slice qb b.length cb] w fun e w' => e = .returned (.bool true) ∧ Below w.heap.size w w' := by
  by_cases h : 40 < o.length ∨ 40 < a.length ∨ 40 < b.length
  · exact blendGoes_great qo co o qa ca a qb cb b w ho.1.1 ha.1.1 hb.1.1 h
  · exact blendGoes_small qo qa qb co ca cb o a b w ho ha hb so sa sb (by omega) (by omega) (by omega)
theorem blendGoes_law (q0 q1 q2 : Option Addr) (n0 n1 n2 c0 c1 c2 : Nat) (z0 z1 z2 : List ByteArray) (w : World) (w0 : View w (.slice q0 n0 c0) z0) (w1 : View w (.slice q1 n1 c1) z1) (w2 : View w (.slice q2 n2 c2) z2) (b0 : ∀ s ∈ z0, s.size ≤ 9223372036854775807) (b1 : ∀ s ∈ z1, s.size ≤ 9223372036854775807) (b2 : ∀ s ∈ z2, s.size ≤ 9223372036854775807) (d0 : n0 ≤ c0 ∧ (q0 = none → c0 = 0)) (d1 : n1 ≤ c1 ∧ (q1 = none → c1 = 0)) (d2 : n2 ≤ c2 ∧ (q2 = none → c2 = 0)) :
    Calls Try.prog 4 #[.slice q0 n0 c0, .slice q1 n1 c1, .slice q2 n2 c2] w fun e w' => e = .returned (.bool true) ∧ Below w.heap.size w w' := by
  obtain ⟨rfl, h0⟩ := arg_of w0 d0
  obtain ⟨rfl, h1⟩ := arg_of w1 d1
  obtain ⟨rfl, h2⟩ := arg_of w2 d2
  exact blendGoes_walk q0 q1 q2 c0 c1 c2 z0 z1 z2 w h0 h1 h2 (szT_small b0) (szT_small b1) (szT_small b2)
end Go.Proofs.Ytbaoomkdlbjhlaa
