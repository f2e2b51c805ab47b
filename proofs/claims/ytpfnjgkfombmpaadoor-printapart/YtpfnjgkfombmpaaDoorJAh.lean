/-
  What the reference's Open of layer 13, and the program's isVoid, hasRaw and ahead do (made by mk_jah.py).
-/
import Derived.Test.YtpfnjgkfombmpaaDoorJOp
import Derived.Test.YtpfnjgkfombmpaaDoorMgP
import Derived.Test.YtpfnjgkfombmpaaDoorMgQ
namespace Go.Proofs.YtpfnjgkfombmpaaDoor
open Go.RowKit
set_option linter.unusedVariables false
set_option linter.unusedSimpArgs false

set_option maxHeartbeats 8000000 in
set_option maxRecDepth 100000 in
theorem jropen_yes (sp : Int) (n : ByteArray) (ats : List (ByteArray × ByteArray)) (tx : ByteArray) (q qk : Option Addr) (cap kl ck : Nat) (w : World) (hc : Sl q ats w) (hf : Fits ats) (hn : n.size ≤ 10000) :
    Calls Tryd.prog 22 #[.agg #[.int .i64 1, .int .i64 sp, .string n, .slice q ats.length cap, .string tx, .slice qk kl ck]] w fun e w' => e = .returned (.string (bs (openL n.data.toList ats))) ∧ Below w.heap.size w w' := by
  have HC := hide hc
  have HF := hide hf
  have hlen : ats.length ≤ 1000 := hf.1
  have h60 : (⟨#[60]⟩ : ByteArray) ++ n = bs ([60] ++ n.data.toList) := by
    have : (⟨#[60]⟩ : ByteArray) = bs [60] := rfl
    rw [this, bs_add]
  have hbN := (Below.refl w.heap.size w).alloc (Nat.le_refl _) (Obj.cells #[.int .i64 1, .int .i64 sp, .string n, .slice q ats.length cap, .string tx, .slice qk kl ck] 31)
  have HBN := hide hbN
  have hn' : ¬ 9223372036854775807 < 1 + n.size := by omega
  clear hc hf hbN
  go_enter Tryd.func22, Tryd.ntmps22
  go_wp2
  go_loopw [3, 15] (fun x i wr => ∃ k : Nat, k ≤ ats.length ∧ i = .int .i64 k ∧ x = .string (bs ([60] ++ n.data.toList ++ attL ats k)) ∧ (attL ats k).length ≤ 80000 * k ∧ Below w.heap.size w wr) (fun _ i _ => ats.length - (intOf i).toNat)
  case atStart => exact ⟨0, Nat.zero_le _, rfl, by rw [attL, List.append_nil]; rfl, by simp [attL], unhide HBN⟩
  case round =>
    obtain ⟨k, hk, rfl, rfl, hal, hbw⟩ := hrel
    have hzw := hbw.size
    have hxz : (bs ([60] ++ n.data.toList ++ attL ats k)).size ≤ 80010001 := by
      rw [bs_size, List.length_append, List.length_append, data_len]; simp; omega
    by_cases hp : k < ats.length
    · have hpi : (k : Int) < (ats.length : Int) := by omega
      rcases (unhide HC).below hbw with h0 | ⟨g, o, rfl, hc2⟩
      · rw [h0] at hp; simp at hp
      obtain ⟨c1, c2⟩ := hc2 k hp
      clear hc2
      have hki : (k : Int) ≤ 1000 := by omega
      have hft := (unhide HF).2 k hp
      have CE := hide (fun w => rescape_any (av ats k) true w (by omega))
      have hel := esc_len true (av ats k).data.toList false
      rw [data_len] at hel
      have hab : ∀ X : ByteArray, X ++ ⟨#[32]⟩ ++ an ats k ++ ⟨#[61, 34]⟩ ++ bs (escL true (av ats k).data.toList) ++ ⟨#[34]⟩ = X ++ bs (attB (an ats k).data.toList (av ats k).data.toList) := fun X => by
        have := att_bs (an ats k) (bs (escL true (av ats k).data.toList))
        rw [bs_toList] at this
        unfold attB
        rw [← this]
        simp only [ByteArray.append_assoc]
      have habz : (attB (an ats k).data.toList (av ats k).data.toList).length ≤ 80000 := by
        unfold attB
        have : (escL true (av ats k).data.toList).length ≤ 6 * (av ats k).size := hel
        simp; omega
      have esz : (bs (escL true (av ats k).data.toList)).size ≤ 60000 := by
        rw [bs_size]
        have : (escL true (av ats k).data.toList).length ≤ 6 * (av ats k).size := hel
        omega
      have hatt : bs ([60] ++ n.data.toList ++ attL ats (k + 1)) = bs ([60] ++ n.data.toList ++ attL ats k) ++ bs (attB (an ats k).data.toList (av ats k).data.toList) := by
        rw [bs_bs, attL, List.append_assoc, List.append_assoc, List.append_assoc]
      have hatl : (attL ats (k + 1)).length ≤ 80000 * (k + 1) := by rw [attL, List.length_append]; omega
      have HAB := hide (hab (bs ([60] ++ n.data.toList ++ attL ats k)))
      have HATT := hide hatt
      have HATL := hide hatl
      clear hab hatt hatl hel
      generalize attB (an ats k).data.toList (av ats k).data.toList = ab at *
      generalize bs (escL true (av ats k).data.toList) = E at *
      generalize an ats k = a1 at *
      generalize av ats k = a2 at *
      generalize hX : bs ([60] ++ n.data.toList ++ attL ats k) = X at *
      clear hX
      have hbA : Below wr.heap.size wr (wr.alloc (.cells #[.string a1, .string a2] 55)) := (Below.refl _ _).alloc (Nat.le_refl _) _
      have hbA' := tr2 hbw hbA
      go_wp2_with fail
      go_quiet ((go_at_call 46; exact Calls.quiet_of_same (unhide CE _)))
      go_wp2
      go_roundw
      case rel => exact ⟨k + 1, by omega, by go_num, by rw [unhide HATT, ← unhide HAB], unhide HATL, _root_.Go.below_drewN hbA' _⟩
      case measure => simp [intOf]; omega
    · have hke : k = ats.length := by omega
      subst hke
      have hol : bs ([60] ++ n.data.toList ++ attL ats ats.length) ++ ⟨#[62]⟩ = bs (openL n.data.toList ats) := by
        have : (⟨#[62]⟩ : ByteArray) = bs [62] := rfl
        rw [this, bs_bs]; unfold openL; simp
      have HOL := hide hol
      clear hol
      generalize hX : bs ([60] ++ n.data.toList ++ attL ats ats.length) = X at *
      clear hX
      go_wp2
      go_ret
      exact ⟨by rw [← unhide HOL]; rfl, hbw⟩


set_option maxHeartbeats 1000000 in
set_option maxRecDepth 100000 in
theorem jropen_no (k sp : Int) (n tx : ByteArray) (q qk : Option Addr) (al c kl ck : Nat) (w : World) (hk : ¬ k = 1) :
    Calls Tryd.prog 22 #[.agg #[.int .i64 k, .int .i64 sp, .string n, .slice q al c, .string tx, .slice qk kl ck]] w fun e w' => e = .returned (.string ⟨#[]⟩) ∧ Below w.heap.size w w' := by
  have e1 : (k != 1) = true := by simpa using hk
  have hbA := (Below.refl w.heap.size w).alloc (Nat.le_refl _) (Obj.cells #[.int .i64 k, .int .i64 sp, .string n, .slice q al c, .string tx, .slice qk kl ck] 31)
  have HB := hide hbA
  clear hbA hk
  go_enter Tryd.func22, Tryd.ntmps22
  go_wp2
  go_ret
  exact ⟨rfl, unhide HB⟩
theorem jropen_any (k sp : Int) (n : ByteArray) (ats : List (ByteArray × ByteArray)) (tx : ByteArray) (q qk : Option Addr) (c kl ck : Nat) (w : World) (hs : Sl q ats w) (hf : Fits ats) (hn : n.size ≤ 10000) :
    Calls Tryd.prog 22 #[.agg #[.int .i64 k, .int .i64 sp, .string n, .slice q ats.length c, .string tx, .slice qk kl ck]] w fun e w' => e = .returned (.string (bs (opL k n.data.toList ats))) ∧ Below w.heap.size w w' := by
  unfold opL
  by_cases h : k = 1
  · subst h
    rw [if_pos rfl]
    exact jropen_yes sp n ats tx q qk c kl ck w hs hf hn
  · rw [if_neg h]
    exact jropen_no k sp n tx q qk ats.length c kl ck w h

/-! ### what a node's text begins with -/
def rwNs : List (List UInt8) := [[115, 99, 114, 105, 112, 116], [115, 116, 121, 108, 101], [120, 109, 112]]
theorem raw_of (l : List UInt8) : (ofN l == 15 || ofN l == 16) = inB l rwNs := by
  by_cases h : l ∈ allNs
  · exact (show ∀ l ∈ allNs, (ofN l == 15 || ofN l == 16) = inB l rwNs by decide +kernel) l h
  · rw [ofN_no h, inB_no h (by decide +kernel)]; rfl
def vdB (sp : Int) (n : ByteArray) : Bool := (sp == 0) && inB n.toList voidNs
def rwB (k sp : Int) (n : ByteArray) : Bool := (k == 1) && ((sp == 0) && inB n.toList rwNs)
def noteL (t : List UInt8) : List UInt8 := [60, 33, 45, 45] ++ (t ++ [45, 45, 62])
def ahL (k : Int) (n : List UInt8) (ats : List (ByteArray × ByteArray)) (tx : List UInt8) (raw : Bool) : List UInt8 :=
  if k = 1 then openL n ats else if k = 3 then noteL tx else if k = 2 then (if raw = true then tx else escL false tx) else []
theorem note_bs (x : ByteArray) : (⟨#[60, 33, 45, 45]⟩ : ByteArray) ++ x ++ ⟨#[45, 45, 62]⟩ = bs (noteL x.data.toList) := by
  have h1 : (⟨#[60, 33, 45, 45]⟩ : ByteArray) = bs [60, 33, 45, 45] := rfl
  have h2 : (⟨#[45, 45, 62]⟩ : ByteArray) = bs [45, 45, 62] := rfl
  rw [h1, h2, bs_add, bs_bs]; unfold noteL; simp
set_option maxHeartbeats 1000000 in
theorem isvoid_any (g o : Nat) (sp : Int) (n : ByteArray) (w : World) (c1 : w.cell? ⟨g, o + 1, none⟩ = some (.int .i64 sp)) (c2 : w.cell? ⟨g, o + 2, none⟩ = some (.string n)) :
    Calls Tryd.prog 67 #[.pointer (some ⟨g, o, none⟩)] w fun e w' => e = .returned (.bool (vdB sp n)) ∧ w' = w := by
  have C := hide (void_any n)
  unfold vdB
  generalize inB n.toList voidNs = x at *
  by_cases h : sp = 0
  · subst h
    rw [show ((0 : Int) == 0) = true from rfl, Bool.true_and]
    go_enter Tryd.func67, Tryd.ntmps67
    go_wp2_with fail
    refine (unhide C _).mono ?_
    rintro e w1 ⟨rfl, hw1⟩
    obtain rfl : w = w1 := hw1.symm
    go_wp2
    go_ret
    exact ⟨rfl, rfl⟩
  · have e1 : (sp == 0) = false := beq_eq_false_iff_ne.2 h
    rw [e1, Bool.false_and]
    clear h
    go_enter Tryd.func67, Tryd.ntmps67
    go_wp2
    go_ret
    exact ⟨rfl, rfl⟩
set_option maxHeartbeats 1000000 in
theorem hasraw_any (g o : Nat) (k sp : Int) (n : ByteArray) (w : World) (c0 : w.cell? ⟨g, o, none⟩ = some (.int .i64 k)) (c1 : w.cell? ⟨g, o + 1, none⟩ = some (.int .i64 sp)) (c2 : w.cell? ⟨g, o + 2, none⟩ = some (.string n)) :
    Calls Tryd.prog 68 #[.pointer (some ⟨g, o, none⟩)] w fun e w' => e = .returned (.bool (rwB k sp n)) ∧ w' = w := by
  have C := hide (group_any n)
  unfold rwB
  rw [← raw_of, ← natI _ 15, ← natI _ 16]
  generalize ofN n.toList = x at *
  by_cases hk : k = 1
  · subst hk
    rw [show ((1 : Int) == 1) = true from rfl, Bool.true_and]
    by_cases h : sp = 0
    · subst h
      rw [show ((0 : Int) == 0) = true from rfl, Bool.true_and]
      go_enter Tryd.func68, Tryd.ntmps68
      go_wp2_with fail
      refine (unhide C _).mono ?_
      rintro e w1 ⟨rfl, hw1⟩
      obtain rfl : w = w1 := hw1.symm
      go_wp2
      all_goals (go_ret; refine ⟨?_, rfl⟩; simp_all)
    · have e1 : (sp == 0) = false := beq_eq_false_iff_ne.2 h
      have e2 : (sp != 0) = true := by simpa using h
      rw [e1, Bool.false_and]
      clear h
      go_enter Tryd.func68, Tryd.ntmps68
      go_wp2
      go_ret
      exact ⟨rfl, rfl⟩
  · have e1 : (k == 1) = false := beq_eq_false_iff_ne.2 hk
    have e2 : (k != 1) = true := by simpa using hk
    rw [e1, Bool.false_and]
    clear hk
    go_enter Tryd.func68, Tryd.ntmps68
    go_wp2
    go_ret
    exact ⟨rfl, rfl⟩
set_option maxHeartbeats 2000000 in
set_option maxRecDepth 100000 in
theorem ahead_any (g o : Nat) (k sp : Int) (n : ByteArray) (ats : List (ByteArray × ByteArray)) (tx : ByteArray) (kids rest : Forest) (raw : Bool) (w : World) (ht : Tabs w) (hl : Lies (.cons k sp n ats tx kids rest) g o w) (hf : Fits ats) (hn : n.size ≤ 10000) (htx : tx.size ≤ 10000) :
    Calls Tryd.prog 66 #[.pointer (some ⟨g, o, none⟩), .bool raw] w fun e w' => e = .returned (.string (bs (ahL k n.data.toList ats tx.data.toList raw))) ∧ Below w.heap.size w w' := by
  obtain ⟨⟨c0, c1, c2, ⟨qa, ca, c3, hsl⟩, c4, ⟨qk, ck, c5, _, _⟩⟩, _⟩ := hl
  unfold ahL
  by_cases h1 : k = 1
  · subst h1
    rw [if_pos rfl]
    have C := hide (jopen_yes sp n ats tx qa qk ca kids.len ck w ht hsl hf hn)
    generalize bs (openL n.data.toList ats) = y at *
    clear ht hsl hf
    go_enter Tryd.func66, Tryd.ntmps66
    go_wp2_with fail
    refine (unhide C).mono ?_
    rintro e w1 ⟨rfl, hb⟩
    have HB := hide hb
    clear hb C
    go_wp2
    go_ret
    exact ⟨rfl, unhide HB⟩
  rw [if_neg h1]
  have e1 : (k == 1) = false := beq_eq_false_iff_ne.2 h1
  by_cases h3 : k = 3
  · subst h3
    rw [if_pos rfl, ← note_bs]
    have z1 : ¬ 9223372036854775807 < 4 + tx.size := by omega
    have z2 : ¬ 9223372036854775807 < 4 + tx.size + 3 := by omega
    clear ht hsl hf c3 c5 h1
    go_enter Tryd.func66, Tryd.ntmps66
    go_wp2
    go_ret
    exact ⟨rfl, Below.refl _ _⟩
  rw [if_neg h3]
  have e3 : (k == 3) = false := beq_eq_false_iff_ne.2 h3
  by_cases h2 : k = 2
  · subst h2
    rw [if_pos rfl]
    cases raw with
    | true =>
      rw [if_pos rfl, bs_self]
      have z1 : ¬ 9223372036854775807 < tx.size := by omega
      clear ht hsl hf c3 c5 h1 h3
      go_enter Tryd.func66, Tryd.ntmps66
      go_wp2
      go_ret
      refine ⟨?_, Below.refl _ _⟩
      first
        | rfl
        | (rw [show (⟨#[]⟩ : ByteArray) ++ tx ++ ⟨#[]⟩ = tx by rw [show (⟨#[]⟩ : ByteArray) = ByteArray.empty from rfl, ByteArray.empty_append, ByteArray.append_empty]]; rfl)
    | false =>
      rw [if_neg (by decide)]
      have C := hide (escape_any tx false w ht (by omega))
      generalize bs (escL false tx.data.toList) = y at *
      clear ht hsl hf c3 c5 h1 h3
      go_enter Tryd.func66, Tryd.ntmps66
      go_wp2_with fail
      refine (unhide C).mono ?_
      rintro e w1 ⟨rfl, hb⟩
      have HB := hide hb
      clear hb C
      go_wp2
      go_ret
      exact ⟨rfl, unhide HB⟩
  rw [if_neg h2]
  have e2 : (k == 2) = false := beq_eq_false_iff_ne.2 h2
  clear ht hsl hf c3 c5 h1 h2 h3
  go_enter Tryd.func66, Tryd.ntmps66
  go_wp2
  go_ret
  exact ⟨rfl, Below.refl _ _⟩
end Go.Proofs.YtpfnjgkfombmpaaDoor
