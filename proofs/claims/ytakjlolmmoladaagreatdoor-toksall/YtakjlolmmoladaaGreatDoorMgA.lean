/-
  Several texts in one: what the functions of the program and of the document's answer do.
-/
import Derived.Test.YtakjlolmmoladaaGreatDoorESm
import Derived.Test.YtakjlolmmoladaaGreatDoorUPl
import Derived.Test.YtakjlolmmoladaaGreatDoorENm
import Derived.Laws.IdiomStrings
import Derived.Test.YtakjlolmmoladaaGreatDoorEAt
import Derived.Lib.DecodeN
import Derived.Test.YtakjlolmmoladaaGreatDoorUFst
import Derived.Test.YtakjlolmmoladaaGreatDoorUByt
import Derived.Test.YtakjlolmmoladaaGreatDoorBd
import Derived.Test.YtakjlolmmoladaaGreatDoorEAl
import Derived.Deep.RegionWith
import Derived.Laws.Runes

/-
  What small functions of the reference of layer 4 do: 'at', 'value'; and 'refs.nameFor'.
-/
namespace Go.Proofs.YtakjlolmmoladaaGreatDoor
open Go.RowKit
set_option linter.unusedVariables false

/-- The byte at a place; 0 where there is none. -/
def atB (l : List UInt8) (k : Nat) : Nat := if k < l.length then dgt l k else 0
theorem rat_at (s : ByteArray) (k : Nat) (w : World) (hk : k ≤ 9223372036854775807) (hs : s.size ≤ 9223372036854775807) :
    Calls Tryz.prog 58 #[.string s, .int .i64 (k : Int)] w fun e w' => e = .returned (.int .u8 (atB s.data.toList k : Int)) ∧ w' = w := by
  have i0 : ¬ (k : Int) < 0 := by omega
  unfold atB
  rw [data_len]
  by_cases h : k < s.size
  · rw [if_pos h]
    have i1 : (k : Int) < (s.size : Int) := by omega
    have i2 : ¬ (s.size : Int) ≤ (k : Int) := by omega
    have e := dgt_at s k h
    generalize dgt s.data.toList k = b at *
    go_enter Tryz.func58, Tryz.ntmps58
    go_wp2
    go_ret
    exact ⟨rfl, rfl⟩
  · rw [if_neg h]
    have i2 : (s.size : Int) ≤ (k : Int) := by omega
    go_enter Tryz.func58, Tryz.ntmps58
    go_wp2
    go_ret
    exact ⟨rfl, rfl⟩

def valN (b : Nat) : Int := if 48 ≤ b ∧ b ≤ 57 then (b : Int) - 48 else if 97 ≤ b ∧ b ≤ 102 then (b : Int) - 87 else if 65 ≤ b ∧ b ≤ 70 then (b : Int) - 55 else 99
theorem val_dig (b : Nat) : (0 ≤ digV b → valN b = digV b) ∧ (digV b < 0 → valN b = 99) := by
  unfold valN digV
  repeat' split
  all_goals omega
theorem rvalue4_any (b : Nat) (w : World) (hb : b < 256) :
    Calls Tryz.prog 82 #[.int .u8 (b : Int)] w fun e w' => e = .returned (.int .i64 (valN b)) ∧ w' = w := by
  unfold valN
  by_cases h1 : 48 ≤ b ∧ b ≤ 57
  · rw [if_pos h1]
    have i0 : (48 : Int) ≤ (b : Int) := by omega
    have i1 : (b : Int) ≤ 57 := by omega
    clear h1
    go_enter Tryz.func82, Tryz.ntmps82
    go_wp2
    go_ret
    exact ⟨rfl, rfl⟩
  rw [if_neg h1]
  by_cases h2 : 97 ≤ b ∧ b ≤ 102
  · rw [if_pos h2]
    have i0 : (48 : Int) ≤ (b : Int) := by omega
    have i1 : decide ((b : Int) ≤ 57) = false := decide_eq_false (by omega)
    have i2 : (97 : Int) ≤ (b : Int) := by omega
    have i3 : (b : Int) ≤ 102 := by omega
    clear h1 h2
    go_enter Tryz.func82, Tryz.ntmps82
    go_wp2
    go_ret
    exact ⟨rfl, rfl⟩
  rw [if_neg h2]
  by_cases h3 : 65 ≤ b ∧ b ≤ 70
  · rw [if_pos h3]
    have i0 : (48 : Int) ≤ (b : Int) := by omega
    have i1 : decide ((b : Int) ≤ 57) = false := decide_eq_false (by omega)
    have i2 : decide ((97 : Int) ≤ (b : Int)) = false := decide_eq_false (by omega)
    have i4 : (65 : Int) ≤ (b : Int) := by omega
    have i5 : (b : Int) ≤ 70 := by omega
    clear h1 h2 h3
    go_enter Tryz.func82, Tryz.ntmps82
    go_wp2
    go_ret
    exact ⟨rfl, rfl⟩
  rw [if_neg h3]
  by_cases a1 : 48 ≤ b
  · have i0 : (48 : Int) ≤ (b : Int) := by omega
    have i1 : decide ((b : Int) ≤ 57) = false := decide_eq_false (by omega)
    by_cases a2 : 97 ≤ b
    · have i2 : (97 : Int) ≤ (b : Int) := by omega
      have i3 : decide ((b : Int) ≤ 102) = false := decide_eq_false (by omega)
      have i4 : (65 : Int) ≤ (b : Int) := by omega
      have i5 : decide ((b : Int) ≤ 70) = false := decide_eq_false (by omega)
      clear h1 h2 h3
      go_enter Tryz.func82, Tryz.ntmps82
      go_wp2
      go_ret
      exact ⟨rfl, rfl⟩
    · have i2 : decide ((97 : Int) ≤ (b : Int)) = false := decide_eq_false (by omega)
      by_cases a3 : 65 ≤ b
      · have i4 : (65 : Int) ≤ (b : Int) := by omega
        have i5 : decide ((b : Int) ≤ 70) = false := decide_eq_false (by omega)
        clear h1 h2 h3 a2
        go_enter Tryz.func82, Tryz.ntmps82
        go_wp2
        go_ret
        exact ⟨rfl, rfl⟩
      · have i4 : decide ((65 : Int) ≤ (b : Int)) = false := decide_eq_false (by omega)
        clear h1 h2 h3 a2 a3
        go_enter Tryz.func82, Tryz.ntmps82
        go_wp2
        go_ret
        exact ⟨rfl, rfl⟩
  · have i0 : decide ((48 : Int) ≤ (b : Int)) = false := decide_eq_false (by omega)
    have i2 : decide ((97 : Int) ≤ (b : Int)) = false := decide_eq_false (by omega)
    have i4 : decide ((65 : Int) ≤ (b : Int)) = false := decide_eq_false (by omega)
    clear h1 h2 h3 a1
    go_enter Tryz.func82, Tryz.ntmps82
    go_wp2
    go_ret
    exact ⟨rfl, rfl⟩

/-- The name that is written for a character. -/
def forN (c : Int) (v : Bool) : List UInt8 :=
  if c = 38 then [97, 109, 112] else if c = 160 then [110, 98, 115, 112] else if c = 60 then [108, 116] else if c = 62 then [103, 116] else if c = 34 ∧ v = true then [113, 117, 111, 116] else []
end Go.Proofs.YtakjlolmmoladaaGreatDoor

/-
  What 'rectoref02.Is' and 'rectoref02.Bytes' do.
-/
namespace Go.Proofs.YtakjlolmmoladaaGreatDoor
open Go.RowKit
set_option linter.unusedVariables false

theorem rIs_any (c : Int) (w : World) :
    Calls Tryz.prog 78 #[.int .i64 c] w fun e w' => e = .returned (.bool (isC c)) ∧ w' = w := by
  by_cases h1 : 0 ≤ c
  · by_cases h2 : c ≤ 1114111
    · by_cases h3 : c < 55296
      · rw [isC_mk (by omega)]
        have hd : decide (55296 ≤ c) = false := by simp; omega
        go_enter Tryz.func78, Tryz.ntmps78
        go_wp2
        go_ret
        exact ⟨rfl, rfl⟩
      · have h3' : 55296 ≤ c := by omega
        by_cases h4 : 57343 < c
        · rw [isC_mk (by omega)]
          have hd : decide (c ≤ 57343) = false := by simp; omega
          clear h3
          go_enter Tryz.func78, Tryz.ntmps78
          go_wp2
          go_ret
          exact ⟨rfl, rfl⟩
        · rw [isC_no (by omega)]
          have h4' : c ≤ 57343 := by omega
          clear h3 h4
          go_enter Tryz.func78, Tryz.ntmps78
          go_wp2
          go_ret
          exact ⟨rfl, rfl⟩
    · rw [isC_no (by omega)]
      have h2' : 1114111 < c := by omega
      have hd : decide (c ≤ 1114111) = false := by simp; omega
      clear h2
      go_enter Tryz.func78, Tryz.ntmps78
      go_wp2
      go_ret
      exact ⟨rfl, rfl⟩
  · rw [isC_no (by omega)]
    have h1' : c < 0 := by omega
    have hd : decide (0 ≤ c) = false := by simp; omega
    clear h1
    go_enter Tryz.func78, Tryz.ntmps78
    go_wp2
    go_ret
    exact ⟨rfl, rfl⟩

set_option maxHeartbeats 400000 in
set_option maxRecDepth 100000 in
theorem rbytes_1 (c : Int) (w : World) (hc : isC c = true) (h1 : c < 128) :
    Calls Tryz.prog 57 #[.int .i64 c] w fun e w' => e = .returned (.string (str (ubI c))) ∧ Below w.heap.size w w' := by
  have hr := isC_true hc
  have hp : 0 ≤ c := hr.1
  have hm : c ≤ 1114111 := hr.2.1
  have C0 := hide (rIs_any c)
  rw [hc] at C0
  rw [ubI_1 h1]
  have hcv : Sem.run Tryz.prog (convert 77 9 (Value.slice (some { block := w.heap.size, off := 0 }) 1 1)) (w.alloc (Obj.cells #[.int .u8 (c)] 5)) = .ok (.string (str [c])) (w.alloc (Obj.cells #[.int .u8 (c)] 5)) := convL w w.heap.size [c] rfl
  clear hr hc
  go_enter Tryz.func57, Tryz.ntmps57
  go_wp2_with fail
  refine (unhide C0 _).mono ?_
  rintro e w1 ⟨rfl, rfl⟩
  go_wp2
  go_ret
  exact ⟨rfl, (Below.refl _ _).alloc (Nat.le_refl _) _⟩

set_option maxHeartbeats 400000 in
set_option maxRecDepth 100000 in
theorem rbytes_2 (c : Int) (w : World) (hc : isC c = true) (h0 : 128 ≤ c) (h1 : c < 2048) :
    Calls Tryz.prog 57 #[.int .i64 c] w fun e w' => e = .returned (.string (str (ubI c))) ∧ Below w.heap.size w w' := by
  have hr := isC_true hc
  have hp : 0 ≤ c := hr.1
  have hm : c ≤ 1114111 := hr.2.1
  have C0 := hide (rIs_any c)
  rw [hc] at C0
  rw [ubI_2 h0 h1]
  have hcv : Sem.run Tryz.prog (convert 77 9 (Value.slice (some { block := w.heap.size, off := 0 }) 2 2)) (w.alloc (Obj.cells #[.int .u8 (192 + c / 64), .int .u8 (128 + c % 64)] 5)) = .ok (.string (str [192 + c / 64, 128 + c % 64])) (w.alloc (Obj.cells #[.int .u8 (192 + c / 64), .int .u8 (128 + c % 64)] 5)) := convL w w.heap.size [192 + c / 64, 128 + c % 64] rfl
  clear hr hc
  go_enter Tryz.func57, Tryz.ntmps57
  go_wp2_with fail
  refine (unhide C0 _).mono ?_
  rintro e w1 ⟨rfl, rfl⟩
  go_wp2
  go_ret
  exact ⟨rfl, (Below.refl _ _).alloc (Nat.le_refl _) _⟩

set_option maxHeartbeats 400000 in
set_option maxRecDepth 100000 in
theorem rbytes_3 (c : Int) (w : World) (hc : isC c = true) (h0 : 2048 ≤ c) (h1 : c < 65536) :
    Calls Tryz.prog 57 #[.int .i64 c] w fun e w' => e = .returned (.string (str (ubI c))) ∧ Below w.heap.size w w' := by
  have hr := isC_true hc
  have hp : 0 ≤ c := hr.1
  have hm : c ≤ 1114111 := hr.2.1
  have C0 := hide (rIs_any c)
  rw [hc] at C0
  rw [ubI_3 h0 h1]
  have hcv : Sem.run Tryz.prog (convert 77 9 (Value.slice (some { block := w.heap.size, off := 0 }) 3 3)) (w.alloc (Obj.cells #[.int .u8 (224 + c / 4096), .int .u8 (128 + c / 64 % 64), .int .u8 (128 + c % 64)] 5)) = .ok (.string (str [224 + c / 4096, 128 + c / 64 % 64, 128 + c % 64])) (w.alloc (Obj.cells #[.int .u8 (224 + c / 4096), .int .u8 (128 + c / 64 % 64), .int .u8 (128 + c % 64)] 5)) := convL w w.heap.size [224 + c / 4096, 128 + c / 64 % 64, 128 + c % 64] rfl
  clear hr hc
  go_enter Tryz.func57, Tryz.ntmps57
  go_wp2_with fail
  refine (unhide C0 _).mono ?_
  rintro e w1 ⟨rfl, rfl⟩
  go_wp2
  go_ret
  exact ⟨rfl, (Below.refl _ _).alloc (Nat.le_refl _) _⟩

set_option maxHeartbeats 400000 in
set_option maxRecDepth 100000 in
theorem rbytes_4 (c : Int) (w : World) (hc : isC c = true) (h0 : 65536 ≤ c) :
    Calls Tryz.prog 57 #[.int .i64 c] w fun e w' => e = .returned (.string (str (ubI c))) ∧ Below w.heap.size w w' := by
  have hr := isC_true hc
  have hp : 0 ≤ c := hr.1
  have hm : c ≤ 1114111 := hr.2.1
  have C0 := hide (rIs_any c)
  rw [hc] at C0
  rw [ubI_4 h0]
  have hcv : Sem.run Tryz.prog (convert 77 9 (Value.slice (some { block := w.heap.size, off := 0 }) 4 4)) (w.alloc (Obj.cells #[.int .u8 (240 + c / 262144), .int .u8 (128 + c / 4096 % 64), .int .u8 (128 + c / 64 % 64), .int .u8 (128 + c % 64)] 5)) = .ok (.string (str [240 + c / 262144, 128 + c / 4096 % 64, 128 + c / 64 % 64, 128 + c % 64])) (w.alloc (Obj.cells #[.int .u8 (240 + c / 262144), .int .u8 (128 + c / 4096 % 64), .int .u8 (128 + c / 64 % 64), .int .u8 (128 + c % 64)] 5)) := convL w w.heap.size [240 + c / 262144, 128 + c / 4096 % 64, 128 + c / 64 % 64, 128 + c % 64] rfl
  clear hr hc
  go_enter Tryz.func57, Tryz.ntmps57
  go_wp2_with fail
  refine (unhide C0 _).mono ?_
  rintro e w1 ⟨rfl, rfl⟩
  go_wp2
  go_ret
  exact ⟨rfl, (Below.refl _ _).alloc (Nat.le_refl _) _⟩

theorem rbytes_char (c : Int) (w : World) (hc : isC c = true) :
    Calls Tryz.prog 57 #[.int .i64 c] w fun e w' => e = .returned (.string (str (ubI c))) ∧ Below w.heap.size w w' := by
  rcases sz_cases c with ⟨h, _⟩ | ⟨hl, h, _⟩ | ⟨hl, h, _⟩ | ⟨hl, _⟩
  · exact rbytes_1 c w hc h
  · exact rbytes_2 c w hc hl h
  · exact rbytes_3 c w hc hl h
  · exact rbytes_4 c w hc hl

theorem rbytes_any (c : Int) (w : World) :
    Calls Tryz.prog 57 #[.int .i64 c] w fun e w' => e = .returned (.string (str (utfI c))) ∧ Below w.heap.size w w' := by
  cases hc : isC c with
  | true =>
    rw [utfI, hc, if_pos rfl]
    exact rbytes_char c w hc
  | false =>
    rw [utfI, hc, if_neg (by decide)]
    have C0 := hide (rIs_any c)
    rw [hc] at C0
    have C1 := hide (fun w => rbytes_char 65533 w (by decide))
    clear hc
    go_enter Tryz.func57, Tryz.ntmps57
    go_wp2_with fail
    refine (unhide C0 _).mono ?_
    rintro e w1 ⟨rfl, rfl⟩
    go_wp2_with fail
    refine (unhide C1 _).mono ?_
    rintro e w1 ⟨rfl, hb1⟩
    go_wp2
    go_ret
    exact ⟨rfl, hb1⟩
end Go.Proofs.YtakjlolmmoladaaGreatDoor

/-
  What the reference's Number does.
-/
namespace Go.Proofs.YtakjlolmmoladaaGreatDoor
open Go.RowKit
set_option linter.unusedVariables false

def toT : List Int := [8364, 129, 8218, 402, 8222, 8230, 8224, 8225, 710, 8240, 352, 8249, 338, 141, 381, 143, 144, 8216, 8217, 8220, 8221, 8226, 8211, 8212, 732, 8482, 353, 8250, 339, 157, 382, 376]
theorem to_num : ∀ k, k < 32 → toT.getD k 0 = numC ((128 + k : Nat) : Int) := by decide

set_option maxHeartbeats 1000000 in
theorem rnumber_any (n : Int) (w : World) :
    Calls Tryz.prog 83 #[.int .i64 n] w fun e w' => e = .returned (.int .i64 (numC n)) ∧ Below w.heap.size w w' := by
  have C := hide (rIs_any n)
  by_cases h0 : n < 1
  · rw [numC_no (.inl (by omega))]
    go_enter Tryz.func83, Tryz.ntmps83
    go_wp2
    go_ret
    exact ⟨rfl, Below.refl _ _⟩
  cases hc : isC n with
  | false =>
    rw [numC_no (.inr hc)]
    rw [hc] at C
    clear hc
    go_enter Tryz.func83, Tryz.ntmps83
    go_wp2_with fail
    refine (unhide C _).mono ?_
    rintro e w1 ⟨rfl, rfl⟩
    go_wp2
    go_ret
    exact ⟨rfl, Below.refl _ _⟩
  | true =>
    rw [hc] at C
    by_cases h1 : n < 128
    · rw [numC_self (by omega) hc (by omega)]
      clear hc
      go_enter Tryz.func83, Tryz.ntmps83
      go_wp2_with fail
      refine (unhide C _).mono ?_
      rintro e w1 ⟨rfl, rfl⟩
      go_wp2
      go_ret
      exact ⟨rfl, Below.refl _ _⟩
    by_cases h2 : 159 < n
    · rw [numC_self (by omega) hc (by omega)]
      clear hc
      go_enter Tryz.func83, Tryz.ntmps83
      go_wp2_with fail
      refine (unhide C _).mono ?_
      rintro e w1 ⟨rfl, rfl⟩
      go_wp2
      go_ret
      exact ⟨rfl, Below.refl _ _⟩
    · obtain ⟨j, hj⟩ : ∃ j : Nat, n = ((128 + j : Nat) : Int) := ⟨(n - 128).toNat, by omega⟩
      have hj32 : j < 32 := by omega
      have ht := to_num j hj32
      rw [← hj] at ht
      rw [← ht]
      have hjn : (n - 128).toNat = j := by omega
      have i0 : 0 ≤ n - 128 := by omega
      have i1 : n - 128 < 32 := by omega
      have cc : ∀ w : World, (w.alloc (.cells (toT.map (Value.int .i64)).toArray 3)).cell? ⟨w.heap.size, j, none⟩ = some (.int .i64 (toT.getD j 0)) := by
        intro w
        rw [World.cell?_alloc_mark]
        have hl : j < toT.length := hj32
        simp [List.getD, List.getElem?_eq_getElem hl]
      have hr2 : toT[j]'hj32 = toT.getD j 0 := by
        have hl : j < toT.length := hj32
        rw [List.getD, List.getElem?_eq_getElem hl]; rfl
      have HR := hide hr2
      have c1 := cc w
      simp only [toT, List.map_cons, List.map_nil] at c1
      clear hc ht hj cc h1 h2 h0 hr2
      go_enter Tryz.func83, Tryz.ntmps83
      go_wp2_with fail
      refine (unhide C _).mono ?_
      rintro e w1 ⟨rfl, rfl⟩
      go_wp2
      go_ret
      exact ⟨congrArg (fun x => Ending.returned (.int .i64 x)) (unhide HR), (Below.refl _ _).alloc (Nat.le_refl _) _⟩
end Go.Proofs.YtakjlolmmoladaaGreatDoor

/-
  What the reference's 'number' does: a reference by a number.
-/
namespace Go.Proofs.YtakjlolmmoladaaGreatDoor
open Go.RowKit
set_option linter.unusedVariables false

def gotR (x : List UInt8) (m : Int) : Value := .agg #[.string (bs x), .int .i64 m]
def capR (n : Nat) : Nat := if 2000000 < n then 2000000 else n
theorem capR_le (n : Nat) : capR n ≤ 2000000 := by unfold capR; split <;> omega
def numR (base : Nat) : Nat → List UInt8 → Nat × Nat
  | n, [] => (n, 0)
  | n, c :: l => if digOk base c.toNat = true then ((numR base (capR (n * base + (digV c.toNat).toNat)) l).1, (numR base (capR (n * base + (digV c.toNat).toNat)) l).2 + 1) else (n, 0)
theorem numR_yes {base n k : Nat} {l : List UInt8} (hk : k < l.length) (h : digOk base (dgt l k) = true) : numR base n (l.drop k) = ((numR base (capR (n * base + (digV (dgt l k)).toNat)) (l.drop (k + 1))).1, (numR base (capR (n * base + (digV (dgt l k)).toNat)) (l.drop (k + 1))).2 + 1) := by
  obtain ⟨c, hc, hn⟩ := drop_at l k hk
  rw [hc, numR, hn, if_pos h]
theorem numR_no {base n k : Nat} {l : List UInt8} (hk : k < l.length) (h : digOk base (dgt l k) = false) : numR base n (l.drop k) = (n, 0) := by
  obtain ⟨c, hc, hn⟩ := drop_at l k hk
  rw [hc, numR, hn, h]; rfl
theorem numR_end {base n k : Nat} {l : List UInt8} (hk : l.length ≤ k) : numR base n (l.drop k) = (n, 0) := by
  rw [List.drop_eq_nil_of_le hk, numR]
theorem numR_le (base : Nat) : ∀ (l : List UInt8) (n : Nat), (numR base n l).2 ≤ l.length
  | [], n => by simp [numR]
  | c :: l, n => by
    rw [numR]
    split
    · have := numR_le base l (capR (n * base + (digV c.toNat).toNat)); simp; omega
    · simp
/-- The two ways to keep a number small tell the same character. -/
def Like (n m : Nat) : Prop := (n = m ∧ m < 1114112) ∨ (1114112 ≤ n ∧ m = 1114112)
theorem like_step {n m base d : Nat} (h : Like n m) (hb : 1 ≤ base) : Like (capR (n * base + d)) (min (m * base + d) 1114112) := by
  unfold Like at *
  unfold capR
  rcases h with ⟨rfl, h⟩ | ⟨h, rfl⟩
  · split <;> omega
  · have h1 : n * 1 ≤ n * base := Nat.mul_le_mul_left n hb
    have h2 : 1114112 * 1 ≤ 1114112 * base := Nat.mul_le_mul_left 1114112 hb
    split <;> omega
theorem num_like (base : Nat) (hb : 1 ≤ base) : ∀ (l : List UInt8) (n m : Nat), Like n m → Like (numR base n l).1 (numG base m l).1 ∧ (numR base n l).2 = (numG base m l).2
  | [], n, m, h => ⟨h, rfl⟩
  | c :: l, n, m, h => by
    rw [numR, numG]
    by_cases hd : digOk base c.toNat = true
    · rw [if_pos hd, if_pos hd]
      have := num_like base hb l _ _ (like_step (d := (digV c.toNat).toNat) h hb)
      exact ⟨this.1, by simp only []; rw [this.2]⟩
    · rw [if_neg hd, if_neg hd]; exact ⟨h, rfl⟩
theorem num_char {base : Nat} (hb : 1 ≤ base) (l : List UInt8) : numC ((numR base 0 l).1 : Int) = numC ((numG base 0 l).1 : Int) ∧ (numR base 0 l).2 = (numG base 0 l).2 := by
  have h := num_like base hb l 0 0 (.inl ⟨rfl, by omega⟩)
  refine ⟨?_, h.2⟩
  rcases h.1 with ⟨e, _⟩ | ⟨h1, h2⟩
  · rw [e]
  · exact numC_big (by omega) (by omega)

def rnumL (l : List UInt8) (i : Nat) (r : Nat × Nat) : List UInt8 × Int := if r.2 = 0 then ([], -1) else (ub (numC (r.1 : Int)), ((i + r.2 + semiN (l.drop (i + r.2)) : Nat) : Int))
def rnumV (l : List UInt8) (i : Nat) (r : Nat × Nat) : Value := gotR (rnumL l i r).1 (rnumL l i r).2
theorem semi_at (l : List UInt8) (k : Nat) : (atB l k = 59 ∧ semiN (l.drop k) = 1) ∨ (¬ atB l k = 59 ∧ semiN (l.drop k) = 0) := by
  unfold atB semiN
  by_cases h : k < l.length
  · rw [if_pos h]
    obtain ⟨c, hc, hn⟩ := drop_at l k h
    rw [hc, ← hn]
    by_cases e : c = 59
    · subst e; exact .inl ⟨rfl, rfl⟩
    · refine .inr ⟨fun h => e (UInt8.toNat.inj h), ?_⟩
      have : ([59].isPrefixOf (c :: l.drop (k + 1))) = false := by simp [List.isPrefixOf]; exact fun h => e h.symm
      rw [this]; rfl
  · rw [if_neg h, List.drop_eq_nil_of_le (by omega)]
    exact .inr ⟨by omega, rfl⟩
theorem val_ok {base b : Nat} (hb : base ≤ 16) : (digOk base b = true → valN b = digV b ∧ valN b < (base : Int) ∧ 0 ≤ valN b) ∧ (digOk base b = false → ¬ valN b < (base : Int)) := by
  have h := val_dig b
  unfold digOk
  constructor
  · intro g
    have g' := of_decide_eq_true g
    have := h.1 g'.1
    omega
  · intro g
    have g' := of_decide_eq_false g
    by_cases hn : 0 ≤ digV b
    · have := h.1 hn; omega
    · have := h.2 (by omega); omega
theorem str_ub (c : Int) : str (ubI c) = bs (ub c) := rfl

set_option maxHeartbeats 4000000 in
theorem rnum_any (s : ByteArray) (i base : Nat) (w : World) (hs : s.size ≤ 100000) (hi : i ≤ 200000) (hb1 : 1 ≤ base) (hb : base ≤ 16) :
    Calls Tryz.prog 60 #[.string s, .int .i64 (i : Int), .int .i64 (base : Int)] w fun e w' => e = .returned (rnumV s.data.toList i (numR base 0 (s.data.toList.drop i))) ∧ Below w.heap.size w w' := by
  have hbi : (base : Int) ≤ 16 := by omega
  have hbi1 : (1 : Int) ≤ (base : Int) := by omega
  go_enter Tryz.func60, Tryz.ntmps60
  go_wp2
  go_loopw [7, 8] (fun a k wr => ∃ (c n : Nat), i + c ≤ max i s.size ∧ k = .int .i64 ((i + c : Nat) : Int) ∧ a = .int .i64 (n : Int) ∧ n ≤ 2000000 ∧ numR base 0 (s.data.toList.drop i) = ((numR base n (s.data.toList.drop (i + c))).1, (numR base n (s.data.toList.drop (i + c))).2 + c) ∧ wr = w.alloc (.cells #[.string ⟨#[]⟩, .int .i64 0] 66)) (fun _ k _ => s.size - (intOf k).toNat)
  case atStart => exact ⟨0, 0, by omega, rfl, rfl, by omega, rfl, rfl⟩
  case round =>
    obtain ⟨c, n, hc, rfl, rfl, hn, hr, rfl⟩ := hrel
    have HR := hide hr
    clear hr
    generalize hq : i + c = q at *
    have HQ := hide hq
    have hq2 : q ≤ 300000 := by omega
    have hend : (∀ m, numR base m (s.data.toList.drop q) = (m, 0)) → numR base 0 (s.data.toList.drop i) = (n, c) := fun h => by rw [unhide HR, h n]; simp
    have HEND := hide hend
    clear hend hq
    have CA := hide (fun w => rat_at s q w (by omega) (by omega))
    have hsem := semi_at s.data.toList q
    have CN := hide (rnumber_any (n : Int))
    have CB := hide (fun w => rbytes_char (numC (n : Int)) w (numC_isC _))
    rw [str_ub] at CB
    have hl1 : c = 0 → rnumV s.data.toList i (n, c) = gotR [] (-1) := fun h => by simp [rnumV, rnumL, h]
    have hl2 : c ≠ 0 → semiN (s.data.toList.drop q) = 1 → rnumV s.data.toList i (n, c) = gotR (ub (numC (n : Int))) ((q : Int) + 1) := fun h h2 => by
      simp only [rnumV, rnumL, h, if_false, unhide HQ, h2]; rfl
    have hl3 : c ≠ 0 → semiN (s.data.toList.drop q) = 0 → rnumV s.data.toList i (n, c) = gotR (ub (numC (n : Int))) (q : Int) := fun h h2 => by
      simp only [rnumV, rnumL, h, if_false, unhide HQ, h2]; rfl
    have H1 := hide hl1
    have H2 := hide hl2
    have H3 := hide hl3
    clear hl1 hl2 hl3
    generalize ub (numC (n : Int)) = u at *
    generalize numC (n : Int) = nc at *
    by_cases hp : q < s.size
    · have hpi : (q : Int) < (s.size : Int) := by omega
      have e := dgt_at s q hp
      have CV := hide (fun w => rvalue4_any (dgt s.data.toList q) w (dgt_lt _ _))
      have hok := val_ok (base := base) (b := dgt s.data.toList q) hb
      have hstep := numR_yes (base := base) (n := n) (k := q) (l := s.data.toList) (by rw [data_len]; exact hp)
      have hstop := fun m => numR_no (base := base) (n := m) (k := q) (l := s.data.toList) (by rw [data_len]; exact hp)
      generalize dgt s.data.toList q = b at *
      cases hd : digOk base b with
      | true =>
        obtain ⟨v1, v2, v3⟩ := hok.1 hd
        have hst := hstep hd
        have hdt : ((digV b).toNat : Int) = valN b := by omega
        obtain ⟨d, hdd⟩ : ∃ d : Nat, (d : Int) = valN b := ⟨(valN b).toNat, by omega⟩
        have hd2 : (digV b).toNat = d := by omega
        rw [hd2] at hst
        rw [← hdd] at CV v2 v3
        have hmul : n * base ≤ 2000000 * 16 := Nat.mul_le_mul hn hb
        obtain ⟨nb, hnb⟩ : ∃ nb, n * base = nb := ⟨_, rfl⟩
        have hmi : (n : Int) * (base : Int) = (nb : Int) := by rw [← hnb]; simp
        rw [hnb] at hst hmul
        have HST := hide hst
        clear hok hstep hstop hst hd v1 hdt hd2 hdd H1 H2 H3 CN CB CA hsem HEND hnb
        by_cases hcap : 2000000 < nb + d
        · have hcap2 : capR (nb + d) = 2000000 := by unfold capR; rw [if_pos hcap]
          have hci : (2000000 : Int) < (nb : Int) + (d : Int) := by omega
          have HC2 := hide hcap2
          clear hcap2
          go_wp2_with (go_at_call 82; refine (unhide CV _).mono ?_; rintro e1 w1 ⟨rfl, rfl⟩)
          go_roundw
          case rel => exact ⟨c + 1, 2000000, by have := unhide HQ; omega, by have := unhide HQ; rw [show i + (c + 1) = q + 1 by omega]; go_num, rfl, by omega, by have := unhide HQ; rw [unhide HR, unhide HST, unhide HC2, show i + (c + 1) = q + 1 by omega]; simp only []; congr 1; omega, by first | exact rfl | trivial⟩
          case measure => simp [intOf]; omega
        · have hcap2 : capR (nb + d) = nb + d := by unfold capR; rw [if_neg hcap]
          have hci : ¬ (2000000 : Int) < (nb : Int) + (d : Int) := by omega
          have HC2 := hide hcap2
          clear hcap2
          go_wp2_with (go_at_call 82; refine (unhide CV _).mono ?_; rintro e1 w1 ⟨rfl, rfl⟩)
          go_roundw
          case rel => exact ⟨c + 1, nb + d, by have := unhide HQ; omega, by have := unhide HQ; rw [show i + (c + 1) = q + 1 by omega]; go_num, by first | rfl | (congr 1; omega) | go_num, by omega, by have := unhide HQ; rw [unhide HR, unhide HST, unhide HC2, show i + (c + 1) = q + 1 by omega]; simp only []; congr 1; omega, by first | exact rfl | trivial⟩
          case measure => simp [intOf]; omega
      | false =>
        have v2 := hok.2 hd
        have hz := unhide HEND (fun m => hstop m hd)
        have HZ := hide hz
        have hvi : decide (valN b < (base : Int)) = false := decide_eq_false v2
        clear hok hstep hstop hd hz
        generalize valN b = vb at *
        clear HR HEND
        by_cases hc0 : c = 0
        · have hqi : ((q : Int) == (i : Int)) = true := by have := unhide HQ; simp; omega
          have HV := hide (unhide H1 hc0)
          clear H1 H2 H3 CN CB CA hsem
          go_wp2_with (go_at_call 82; refine (unhide CV _).mono ?_; rintro e1 w1 ⟨rfl, rfl⟩)
          exact bodyPost_ret (v := gotR [] (-1)) (by simp [results, Tryz.results60, go_sem, gotR, bs]) rfl ⟨by rw [unhide HZ, unhide HV], (Below.refl _ _).alloc (Nat.le_refl _) _⟩
        · have hqi : ((q : Int) == (i : Int)) = false := by have := unhide HQ; simp; omega
          rcases hsem with ⟨ha, hm⟩ | ⟨ha, hm⟩
          · have HV := hide (unhide H2 hc0 hm)
            rw [ha] at CA
            clear H1 H2 H3 hm ha
            go_wp2_with fail
            refine (unhide CV _).mono ?_; rintro e1 w1 ⟨rfl, rfl⟩
            go_wp2_with fail
            refine (unhide CA _).mono ?_; rintro e1 w1 ⟨rfl, rfl⟩
            go_wp2_with fail
            refine (unhide CN _).mono ?_; rintro e1 w2 ⟨rfl, hb2⟩
            go_wp2_with fail
            refine (unhide CB _).mono ?_; rintro e1 w3 ⟨rfl, hb3⟩
            have hb13 := tr2 hb2 hb3
            have hz : w.heap.size < w3.heap.size := by have := hb13.size; simp at this; omega
            obtain ⟨hc, hf⟩ := bcell hb13
            go_wp2
            exact bodyPost_ret (v := gotR u ((q : Int) + 1)) (by simp [results, Tryz.results60, go_sem, gotR, hc]) rfl ⟨by rw [unhide HZ, unhide HV], ((bel_of hb13).setCell (by simp) _).setCell (by simp) _⟩
          · have HV := hide (unhide H3 hc0 hm)
            generalize atB s.data.toList q = ab at *
            have nab : ((ab : Int) == 59) = false := bneI (by omega)
            clear H1 H2 H3 hm ha
            go_wp2_with fail
            refine (unhide CV _).mono ?_; rintro e1 w1 ⟨rfl, rfl⟩
            go_wp2_with fail
            refine (unhide CA _).mono ?_; rintro e1 w1 ⟨rfl, rfl⟩
            go_wp2_with fail
            refine (unhide CN _).mono ?_; rintro e1 w2 ⟨rfl, hb2⟩
            go_wp2_with fail
            refine (unhide CB _).mono ?_; rintro e1 w3 ⟨rfl, hb3⟩
            have hb13 := tr2 hb2 hb3
            have hz : w.heap.size < w3.heap.size := by have := hb13.size; simp at this; omega
            obtain ⟨hc, hf⟩ := bcell hb13
            go_wp2
            exact bodyPost_ret (v := gotR u (q : Int)) (by simp [results, Tryz.results60, go_sem, gotR, hc]) rfl ⟨by rw [unhide HZ, unhide HV], ((bel_of hb13).setCell (by simp) _).setCell (by simp) _⟩
    · have hpi : ¬ (q : Int) < (s.size : Int) := by omega
      have hz := unhide HEND (fun m => numR_end (by rw [data_len]; omega))
      have HZ := hide hz
      clear hz HR HEND
      by_cases hc0 : c = 0
      · have hqi : ((q : Int) == (i : Int)) = true := by have := unhide HQ; simp; omega
        have HV := hide (unhide H1 hc0)
        clear H1 H2 H3 CN CB CA hsem
        go_wp2
        exact bodyPost_ret (v := gotR [] (-1)) (by simp [results, Tryz.results60, go_sem, gotR, bs]) rfl ⟨by rw [unhide HZ, unhide HV], (Below.refl _ _).alloc (Nat.le_refl _) _⟩
      · have hqi : ((q : Int) == (i : Int)) = false := by have := unhide HQ; simp; omega
        rcases hsem with ⟨ha, hm⟩ | ⟨ha, hm⟩
        · exfalso
          unfold atB at ha
          rw [if_neg (by rw [data_len]; omega)] at ha
          omega
        · have HV := hide (unhide H3 hc0 hm)
          generalize atB s.data.toList q = ab at *
          have nab : ((ab : Int) == 59) = false := bneI (by omega)
          clear H1 H2 H3 hm ha
          go_wp2_with fail
          refine (unhide CA _).mono ?_; rintro e1 w1 ⟨rfl, rfl⟩
          go_wp2_with fail
          refine (unhide CN _).mono ?_; rintro e1 w2 ⟨rfl, hb2⟩
          go_wp2_with fail
          refine (unhide CB _).mono ?_; rintro e1 w3 ⟨rfl, hb3⟩
          have hb13 := tr2 hb2 hb3
          have hz : w.heap.size < w3.heap.size := by have := hb13.size; simp at this; omega
          obtain ⟨hc, hf⟩ := bcell hb13
          go_wp2
          exact bodyPost_ret (v := gotR u (q : Int)) (by simp [results, Tryz.results60, go_sem, gotR, hc]) rfl ⟨by rw [unhide HZ, unhide HV], ((bel_of hb13).setCell (by simp) _).setCell (by simp) _⟩
end Go.Proofs.YtakjlolmmoladaaGreatDoor

/-
  A reference by a name: the longest one from the top down is the longest one of all names.
-/
namespace Go.Proofs.YtakjlolmmoladaaGreatDoor
open Go.RowKit
set_option linter.unusedVariables false

def looseB (l : List UInt8) : Bool := match nameI l with | none => false | some k => nmBare k
theorem loose_none {l : List UInt8} (h : nameI l = none) : looseB l = false := by simp only [looseB, h]
theorem loose_some {l : List UInt8} {k : Nat} (h : nameI l = some k) : looseB l = nmBare k := by simp only [looseB, h]
theorem loose_char {l : List UInt8} (h : looseB l = true) : isC (nameC l) = true := by
  cases e : nameI l with
  | none => rw [loose_none e] at h; cases h
  | some k => rw [nameC_some e]; exact (nm_facts k (nameI_some e).1).2.2.2.2
theorem name_char {l : List UInt8} (h : nameC l ≠ 0) : isC (nameC l) = true := by
  cases e : nameI l with
  | none => exact absurd (nameC_none e) h
  | some k => rw [nameC_some e]; exact (nm_facts k (nameI_some e).1).2.2.2.2
theorem name_zero {l : List UInt8} : nameC l ≠ 0 ↔ ∃ k, k < 28 ∧ nmName k = l := by
  constructor
  · intro h
    cases e : nameI l with
    | none => exact absurd (nameC_none e) h
    | some k => exact ⟨k, nameI_some e⟩
  · rintro ⟨k, hk, rfl⟩
    rw [nameC_some (nameI_is hk)]
    have := nm_facts k hk; omega

def hitS (m : List UInt8) (n : Nat) : Bool := decide (n ≤ m.length ∧ dgt m (n - 1) = 59 ∧ nameC (m.take (n - 1)) ≠ 0)
def hitB (m : List UInt8) (v : Bool) (n : Nat) : Bool := decide (n ≤ m.length ∧ looseB (m.take n) = true ∧ ¬ (v = true ∧ onB (m.drop n) = true))
def refF (m : List UInt8) (v : Bool) : Nat → Option (Int × Nat)
  | 0 => none
  | n + 1 => if hitS m (n + 1) = true then some (nameC (m.take n), n + 1) else if hitB m v (n + 1) = true then some (nameC (m.take (n + 1)), n + 1) else refF m v n

theorem semi_one {l : List UInt8} (h : semiN l = 1) : 0 < l.length ∧ dgt l 0 = 59 := by
  have := semi_at l 0
  rw [List.drop_zero, h] at this
  rcases this with ⟨h1, _⟩ | ⟨_, h2⟩
  · unfold atB at h1
    split at h1
    · exact ⟨by assumption, h1⟩
    · omega
  · omega
theorem semi_is {l : List UInt8} (h0 : 0 < l.length) (h : dgt l 0 = 59) : semiN l = 1 := by
  have := semi_at l 0
  rw [List.drop_zero] at this
  rcases this with ⟨_, h2⟩ | ⟨h1, _⟩
  · exact h2
  · unfold atB at h1; rw [if_pos h0] at h1; exact absurd h h1
theorem pre_take {a m : List UInt8} (h : a.isPrefixOf m = true) : m.take a.length = a ∧ a.length ≤ m.length := by
  obtain ⟨t, rfl⟩ := List.isPrefixOf_iff_prefix.1 h
  simp
theorem take_pre {m : List UInt8} {n : Nat} : (m.take n).isPrefixOf m = true := List.isPrefixOf_iff_prefix.2 (List.take_prefix n m)

theorem cand_hit {k : Nat} {m : List UInt8} {v : Bool} (hk : k < 28) (h : 0 < candN k m v) :
    (hitS m (candN k m v - 1) = true ∧ candN k m v = (nmName k).length + 2 ∧ m.take (candN k m v - 2) = nmName k)
    ∨ (hitB m v (candN k m v - 1) = true ∧ candN k m v = (nmName k).length + 1 ∧ m.take (candN k m v - 1) = nmName k) := by
  unfold candN at h ⊢
  by_cases hp : (nmName k).isPrefixOf m = true
  · rw [if_pos hp] at h ⊢
    have hpt := pre_take hp
    by_cases hs : semiN (m.drop (nmName k).length) = 1
    · rw [if_pos hs] at h ⊢
      have hso := semi_one hs
      rw [List.length_drop, dgt_drop, Nat.add_zero] at hso
      refine .inl ⟨?_, rfl, ?_⟩
      · unfold hitS
        apply decide_eq_true
        rw [show (nmName k).length + 2 - 1 = (nmName k).length + 1 by omega, show (nmName k).length + 1 - 1 = (nmName k).length by omega, hpt.1]
        exact ⟨by omega, hso.2, name_zero.2 ⟨k, hk, rfl⟩⟩
      · rw [show (nmName k).length + 2 - 2 = (nmName k).length by omega]; exact hpt.1
    · rw [if_neg hs] at h ⊢
      by_cases hb : nmBare k = false ∨ (v = true ∧ onB (m.drop (nmName k).length) = true)
      · rw [if_pos hb] at h; omega
      · rw [if_neg hb] at h ⊢
        refine .inr ⟨?_, rfl, ?_⟩
        · unfold hitB
          apply decide_eq_true
          rw [show (nmName k).length + 1 - 1 = (nmName k).length by omega, hpt.1, loose_some (nameI_is hk)]
          refine ⟨hpt.2, ?_, fun hx => hb (.inr hx)⟩
          cases e : nmBare k with
          | true => rfl
          | false => exact absurd (.inl e) hb
        · rw [show (nmName k).length + 1 - 1 = (nmName k).length by omega]; exact hpt.1
  · rw [if_neg hp] at h; omega
theorem hitS_cand {m : List UInt8} {v : Bool} {n : Nat} (hn : 1 ≤ n) (h : hitS m n = true) : ∃ k, k < 28 ∧ candN k m v = n + 1 ∧ m.take (n - 1) = nmName k := by
  unfold hitS at h
  obtain ⟨h1, h2, h3⟩ := of_decide_eq_true h
  obtain ⟨k, hk, e⟩ := name_zero.1 h3
  have hl : (nmName k).length = n - 1 := by rw [e, List.length_take]; omega
  refine ⟨k, hk, ?_, e.symm⟩
  unfold candN
  have hp : (nmName k).isPrefixOf m = true := by rw [e]; exact take_pre
  have hs : semiN (m.drop (nmName k).length) = 1 := semi_is (by rw [List.length_drop]; omega) (by rw [dgt_drop, hl]; exact h2)
  rw [if_pos hp, if_pos hs]; omega
theorem hitB_cand {m : List UInt8} {v : Bool} {n : Nat} (h : hitB m v n = true) : ∃ k, k < 28 ∧ n + 1 ≤ candN k m v := by
  unfold hitB at h
  obtain ⟨h1, h2, h3⟩ := of_decide_eq_true h
  cases e : nameI (m.take n) with
  | none => rw [loose_none e] at h2; cases h2
  | some k =>
    obtain ⟨hk, en⟩ := nameI_some e
    have hl : (nmName k).length = n := by rw [en, List.length_take]; omega
    have hp : (nmName k).isPrefixOf m = true := by rw [en]; exact take_pre
    refine ⟨k, hk, ?_⟩
    unfold candN
    rw [if_pos hp]
    by_cases hs : semiN (m.drop (nmName k).length) = 1
    · rw [if_pos hs]; omega
    · rw [if_neg hs, if_neg (by
        rintro (hx | hx)
        · rw [loose_some e, hx] at h2; cases h2
        · rw [hl] at hx; exact h3 hx)]
      omega

theorem dgt_take {m : List UInt8} {n : Nat} (hn : 1 ≤ n) (h : n ≤ m.length) : ∃ c ∈ m.take n, c.toNat = dgt m (n - 1) := by
  have hlt : n - 1 < (m.take n).length := by rw [List.length_take]; omega
  refine ⟨(m.take n)[n - 1], List.getElem_mem hlt, ?_⟩
  unfold dgt
  rw [List.getD, List.getElem?_eq_getElem (by omega), List.getElem_take]; rfl
theorem refF_best {m : List UInt8} {v : Bool} {c : Int} {N : Nat} (h : Best m v 28 c N) : ∀ n, N ≤ n + 1 → refF m v n = if N = 0 then none else some (c, N - 1)
  | 0, hn => by
    rcases h with ⟨h1, _⟩ | ⟨h0, i, hi, hc, _⟩
    · rw [if_pos h1]; rfl
    · exfalso
      rcases cand_hit hi (by rw [hc]; exact h0) with ⟨_, h2, _⟩ | ⟨_, h2, _⟩
      · omega
      · have := nm_facts i hi; omega
  | n + 1, hn => by
    rw [refF]
    by_cases hs : hitS m (n + 1) = true
    · rw [if_pos hs]
      obtain ⟨k, hk, hck, hnk⟩ := hitS_cand (v := v) (by omega) hs
      rw [show n + 1 - 1 = n by omega] at hnk
      rcases h with ⟨h1, _, h3⟩ | ⟨h0, i, hi, hc, hci, hmax⟩
      · have := h3 k hk; omega
      · have hm := hmax k hk
        have hN : N = n + 2 := by omega
        rw [if_neg (by omega), hN]
        have : nameC (m.take n) = c := by
          rcases cand_hit hi (by rw [hc]; exact h0) with ⟨_, _, h5⟩ | ⟨_, h4, h5⟩
          · rw [hc, hN, show n + 2 - 2 = n by omega] at h5
            rw [h5, nameC_some (nameI_is hi), hci]
          · exfalso
            rw [hc, hN, show n + 2 - 1 = n + 1 by omega] at h5
            have hd := (of_decide_eq_true hs)
            obtain ⟨x, hx, hxn⟩ := dgt_take (m := m) (n := n + 1) (by omega) hd.1
            rw [h5] at hx
            have := ltN_true (nm_plain i hi x hx)
            rw [hxn, hd.2.1] at this; omega
        rw [this]; rfl
    · rw [if_neg hs]
      by_cases hb : hitB m v (n + 1) = true
      · rw [if_pos hb]
        obtain ⟨k, hk, hck⟩ := hitB_cand hb
        rcases h with ⟨h1, _, h3⟩ | ⟨h0, i, hi, hc, hci, hmax⟩
        · have := h3 k hk; omega
        · have hm := hmax k hk
          have hN : N = n + 2 := by omega
          rw [if_neg (by omega), hN]
          have : nameC (m.take (n + 1)) = c := by
            rcases cand_hit hi (by rw [hc]; exact h0) with ⟨h4, _, _⟩ | ⟨_, _, h5⟩
            · rw [hc, hN, show n + 2 - 1 = n + 1 by omega] at h4; exact absurd h4 hs
            · rw [hc, hN, show n + 2 - 1 = n + 1 by omega] at h5
              rw [h5, nameC_some (nameI_is hi), hci]
          rw [this]; rfl
      · rw [if_neg hb]
        refine refF_best h n ?_
        rcases h with ⟨h1, _⟩ | ⟨h0, i, hi, hc, _⟩
        · omega
        · rcases cand_hit hi (by rw [hc]; exact h0) with ⟨h4, _⟩ | ⟨h4, _⟩
          · rcases Nat.lt_or_ge N (n + 2) with g | g
            · omega
            · rw [hc, show N = n + 2 by omega, show n + 2 - 1 = n + 1 by omega] at h4; exact absurd h4 hs
          · rcases Nat.lt_or_ge N (n + 2) with g | g
            · omega
            · rw [hc, show N = n + 2 by omega, show n + 2 - 1 = n + 1 by omega] at h4; exact absurd h4 hb
def refL (m : List UInt8) (v : Bool) : Option (Int × Nat) := refF m v 7
theorem refL_best {m : List UInt8} {v : Bool} {c : Int} {N : Nat} (h : Best m v 28 c N) : refL m v = if N = 0 then none else some (c, N - 1) := refF_best h 7 (best_le (Nat.le_refl _) h)

/-! ### 'Loose', as it is asked -/
def tightT : List (List UInt8) := [[110, 111, 116, 105, 110], [101, 117, 114, 111], [104, 101, 108, 108, 105, 112], [109, 100, 97, 115, 104], [110, 100, 97, 115, 104], [97, 108, 112, 104, 97], [98, 101, 116, 97], [114, 97, 114, 114], [108, 97, 114, 114], [97, 112, 111, 115]]
theorem tight_bare : ∀ k, k < 28 → (nmBare k = false ↔ nmName k ∈ tightT) := by decide
theorem tight_yes {l : List UInt8} (h : l ∈ tightT) : looseB l = false := by
  cases e : nameI l with
  | none => exact loose_none e
  | some k => rw [loose_some e]; exact (tight_bare k (nameI_some e).1).2 (by rw [(nameI_some e).2]; exact h)
theorem tight_no {l : List UInt8} (h : ¬ l ∈ tightT) : looseB l = decide (nameC l ≠ 0) := by
  cases e : nameI l with
  | none => rw [loose_none e, nameC_none e]; rfl
  | some k =>
    rw [loose_some e, nameC_some e]
    have := nm_facts k (nameI_some e).1
    have h2 : nmBare k = true := by
      cases eb : nmBare k with
      | true => rfl
      | false => exact absurd (by rw [← (nameI_some e).2]; exact (tight_bare k (nameI_some e).1).1 eb) h
    rw [h2]; exact (decide_eq_true (by omega)).symm
end Go.Proofs.YtakjlolmmoladaaGreatDoor

/-
  What the reference s Refs does: all names with their characters, in new memory.
-/
namespace Go.Proofs.YtakjlolmmoladaaGreatDoor
open Go.RowKit
set_option linter.unusedVariables false
def rfCells : List Value := nmT.flatMap fun x => [.string (bs x.1), .int .i64 x.2.1]
set_option maxHeartbeats 4000000 in
set_option maxRecDepth 100000 in
theorem rrefs_any (w : World) : Calls Tryz.prog 97 #[] w fun e w' => e = .returned (.slice (some ⟨w.heap.size, 0, none⟩) 28 28) ∧ w' = w.alloc (.cells rfCells.toArray 117) := by
  go_enter Tryz.func97, Tryz.ntmps97
  go_wp2
  go_ret
  exact ⟨rfl, rfl⟩
end Go.Proofs.YtakjlolmmoladaaGreatDoor

/-
  What the reference's Name does: of every name its character.
-/
namespace Go.Proofs.YtakjlolmmoladaaGreatDoor
open Go.RowKit
set_option linter.unusedVariables false

theorem rf_at (k : Nat) (h : k < 28) : rfCells.toArray[k * 2]? = some (.string (bs (nmName k))) ∧ rfCells.toArray[k * 2 + 1]? = some (.int .i64 (nmChar k)) := by
  have : k = 0 ∨ k = 1 ∨ k = 2 ∨ k = 3 ∨ k = 4 ∨ k = 5 ∨ k = 6 ∨ k = 7 ∨ k = 8 ∨ k = 9 ∨ k = 10 ∨ k = 11 ∨ k = 12 ∨ k = 13 ∨ k = 14 ∨ k = 15 ∨ k = 16 ∨ k = 17 ∨ k = 18 ∨ k = 19 ∨ k = 20 ∨ k = 21 ∨ k = 22 ∨ k = 23 ∨ k = 24 ∨ k = 25 ∨ k = 26 ∨ k = 27 := by omega
  rcases this with rfl | rfl | rfl | rfl | rfl | rfl | rfl | rfl | rfl | rfl | rfl | rfl | rfl | rfl | rfl | rfl | rfl | rfl | rfl | rfl | rfl | rfl | rfl | rfl | rfl | rfl | rfl | rfl
  all_goals exact ⟨rfl, rfl⟩
def RTab (g : Nat) (w : World) : Prop := ∀ k, k < 28 → w.cell? ⟨g, k * 2, none⟩ = some (.string (bs (nmName k))) ∧ w.cell? ⟨g, k * 2 + 1, none⟩ = some (.int .i64 (nmChar k))
theorem rTab_new (w : World) : RTab w.heap.size (w.alloc (.cells rfCells.toArray 117)) := by
  intro k hk
  have := rf_at k hk
  have hb := heap_alloc_new w (.cells rfCells.toArray 117)
  exact ⟨(Joins.cell_of_block hb _).trans this.1, (Joins.cell_of_block hb _).trans this.2⟩
theorem RTab.below {g : Nat} {w w' : World} (h : RTab g w) (hb : Below w.heap.size w w') : RTab g w' := fun k hk => ⟨cell_later hb (h k hk).1, cell_later hb (h k hk).2⟩

set_option maxHeartbeats 1000000 in
theorem rname_any (s : ByteArray) (w : World) : Calls Tryz.prog 79 #[.string s] w fun e w' => e = .returned (.int .i64 (nameC s.data.toList)) ∧ Below w.heap.size w w' := by
  have C := hide rrefs_any
  have HI : Hid (∀ k, k < 28 → nmName k = s.data.toList → nameC s.data.toList = nmChar k) := fun k hk h => by rw [← h, nameC_some (nameI_is hk)]
  have HZ : Hid ((∀ k, k < 28 → ¬ nmName k = s.data.toList) → nameC s.data.toList = 0) := fun h => by
    cases e : nameI s.data.toList with
    | none => exact nameC_none e
    | some k => exact absurd (nameI_some e).2 (h k (nameI_some e).1)
  go_enter Tryz.func79, Tryz.ntmps79
  go_wp2_with fail
  refine (unhide C _).mono ?_
  rintro e w1 ⟨rfl, rfl⟩
  have R1 := rTab_new w
  have hbA : Below w.heap.size w (w.alloc (.cells rfCells.toArray 117)) := (Below.refl _ _).alloc (Nat.le_refl _) _
  generalize w.alloc (.cells rfCells.toArray 117) = w1 at *
  have HR1 := hide R1
  clear R1
  go_wp2
  go_loopw [7] (fun i wr => ∃ k : Nat, k ≤ 28 ∧ i = .int .i64 k ∧ Below w1.heap.size w1 wr ∧ ∀ j, j < k → ¬ nmName j = s.data.toList) (fun i _ => 28 - (intOf i).toNat)
  case atStart => exact ⟨0, Nat.zero_le _, rfl, Below.refl _ _, fun j hj => by omega⟩
  case round =>
    obtain ⟨k, hk, rfl, hbw, hno⟩ := hrel
    have HN := hide hno
    clear hno
    by_cases hp : k < 28
    · have hpi : (k : Int) < 28 := by omega
      obtain ⟨d1, d2⟩ := (unhide HR1).below hbw k hp
      have hzw := hbw.size
      by_cases he : nmName k = s.data.toList
      · have hxx : bs (nmName k) = s := by rw [he, bs_self]
        have hb := beq_yes hxx
        have HC := hide (unhide HI k hp he)
        generalize bs (nmName k) = nm at *
        clear he hxx
        go_wp2
        go_ret
        exact ⟨by rw [unhide HC]; rfl, (hbA.trans (hbw.mono hbA.size)).alloc (by have := hbA.size; omega) _⟩
      · have hxx : ¬ bs (nmName k) = s := fun e => he (by rw [← e, bs_toList])
        have hb := beq_no hxx
        have HE := hide he
        generalize bs (nmName k) = nm at *
        clear he hxx
        go_wp2
        go_roundw
        case rel => exact ⟨k + 1, by omega, by go_num, hbw.alloc hbw.size _, fun j hj => by
          by_cases hjk : j = k
          · rw [hjk]; exact unhide HE
          · exact unhide HN j (by omega)⟩
        case measure => simp [intOf]; omega
    · have hpi : ¬ (k : Int) < 28 := by omega
      have HC := hide (unhide HZ (fun j hj => unhide HN j (by omega)))
      go_wp2
      go_ret
      exact ⟨by rw [unhide HC]; rfl, hbA.trans (hbw.mono hbA.size)⟩
end Go.Proofs.YtakjlolmmoladaaGreatDoor

/-
  What the reference's 'Loose' does: may a name stand without a ; behind it?
-/
namespace Go.Proofs.YtakjlolmmoladaaGreatDoor
open Go.RowKit
set_option linter.unusedVariables false

theorem lit_ne {s : ByteArray} {l m : List UInt8} (h : s.data.toList = l) (hn : l ≠ m) : (s.toList == m) = false := by rw [Lib.toList_data, h]; exact beq_eq_false_iff_ne.2 hn
theorem lit_no {s : ByteArray} {m : List UInt8} (h : ¬ s.data.toList = m) : (s.toList == m) = false := by rw [Lib.toList_data]; exact beq_eq_false_iff_ne.2 h
theorem lit_is {s : ByteArray} {m : List UInt8} (h : s.data.toList = m) : (s.toList == m) = true := by rw [Lib.toList_data, h]; simp
def RLoose : Prop := ∀ (s : ByteArray) (w : World), Calls Tryz.prog 81 #[.string s] w fun e w' => e = .returned (.bool (looseB s.data.toList)) ∧ Below w.heap.size w w'
set_option maxHeartbeats 4000000 in
theorem rloose_any : RLoose := by
  intro s w
  have CN := hide (rname_any s)
  by_cases h0 : s.data.toList = [110, 111, 116, 105, 110]
  · rw [tight_yes (by rw [h0]; decide)]
    have k0 : (s.toList == [110, 111, 116, 105, 110]) = true := lit_is h0
    clear h0 CN
    go_enter Tryz.func81, Tryz.ntmps81
    go_wp2
    go_ret
    exact ⟨rfl, Below.refl _ _⟩
  by_cases h1 : s.data.toList = [101, 117, 114, 111]
  · rw [tight_yes (by rw [h1]; decide)]
    have k0 : (s.toList == [110, 111, 116, 105, 110]) = false := lit_ne h1 (by decide)
    have k1 : (s.toList == [101, 117, 114, 111]) = true := lit_is h1
    clear h0 h1 CN
    go_enter Tryz.func81, Tryz.ntmps81
    go_wp2
    go_ret
    exact ⟨rfl, Below.refl _ _⟩
  by_cases h2 : s.data.toList = [104, 101, 108, 108, 105, 112]
  · rw [tight_yes (by rw [h2]; decide)]
    have k0 : (s.toList == [110, 111, 116, 105, 110]) = false := lit_ne h2 (by decide)
    have k1 : (s.toList == [101, 117, 114, 111]) = false := lit_ne h2 (by decide)
    have k2 : (s.toList == [104, 101, 108, 108, 105, 112]) = true := lit_is h2
    clear h0 h1 h2 CN
    go_enter Tryz.func81, Tryz.ntmps81
    go_wp2
    go_ret
    exact ⟨rfl, Below.refl _ _⟩
  by_cases h3 : s.data.toList = [109, 100, 97, 115, 104]
  · rw [tight_yes (by rw [h3]; decide)]
    have k0 : (s.toList == [110, 111, 116, 105, 110]) = false := lit_ne h3 (by decide)
    have k1 : (s.toList == [101, 117, 114, 111]) = false := lit_ne h3 (by decide)
    have k2 : (s.toList == [104, 101, 108, 108, 105, 112]) = false := lit_ne h3 (by decide)
    have k3 : (s.toList == [109, 100, 97, 115, 104]) = true := lit_is h3
    clear h0 h1 h2 h3 CN
    go_enter Tryz.func81, Tryz.ntmps81
    go_wp2
    go_ret
    exact ⟨rfl, Below.refl _ _⟩
  by_cases h4 : s.data.toList = [110, 100, 97, 115, 104]
  · rw [tight_yes (by rw [h4]; decide)]
    have k0 : (s.toList == [110, 111, 116, 105, 110]) = false := lit_ne h4 (by decide)
    have k1 : (s.toList == [101, 117, 114, 111]) = false := lit_ne h4 (by decide)
    have k2 : (s.toList == [104, 101, 108, 108, 105, 112]) = false := lit_ne h4 (by decide)
    have k3 : (s.toList == [109, 100, 97, 115, 104]) = false := lit_ne h4 (by decide)
    have k4 : (s.toList == [110, 100, 97, 115, 104]) = true := lit_is h4
    clear h0 h1 h2 h3 h4 CN
    go_enter Tryz.func81, Tryz.ntmps81
    go_wp2
    go_ret
    exact ⟨rfl, Below.refl _ _⟩
  by_cases h5 : s.data.toList = [97, 108, 112, 104, 97]
  · rw [tight_yes (by rw [h5]; decide)]
    have k0 : (s.toList == [110, 111, 116, 105, 110]) = false := lit_ne h5 (by decide)
    have k1 : (s.toList == [101, 117, 114, 111]) = false := lit_ne h5 (by decide)
    have k2 : (s.toList == [104, 101, 108, 108, 105, 112]) = false := lit_ne h5 (by decide)
    have k3 : (s.toList == [109, 100, 97, 115, 104]) = false := lit_ne h5 (by decide)
    have k4 : (s.toList == [110, 100, 97, 115, 104]) = false := lit_ne h5 (by decide)
    have k5 : (s.toList == [97, 108, 112, 104, 97]) = true := lit_is h5
    clear h0 h1 h2 h3 h4 h5 CN
    go_enter Tryz.func81, Tryz.ntmps81
    go_wp2
    go_ret
    exact ⟨rfl, Below.refl _ _⟩
  by_cases h6 : s.data.toList = [98, 101, 116, 97]
  · rw [tight_yes (by rw [h6]; decide)]
    have k0 : (s.toList == [110, 111, 116, 105, 110]) = false := lit_ne h6 (by decide)
    have k1 : (s.toList == [101, 117, 114, 111]) = false := lit_ne h6 (by decide)
    have k2 : (s.toList == [104, 101, 108, 108, 105, 112]) = false := lit_ne h6 (by decide)
    have k3 : (s.toList == [109, 100, 97, 115, 104]) = false := lit_ne h6 (by decide)
    have k4 : (s.toList == [110, 100, 97, 115, 104]) = false := lit_ne h6 (by decide)
    have k5 : (s.toList == [97, 108, 112, 104, 97]) = false := lit_ne h6 (by decide)
    have k6 : (s.toList == [98, 101, 116, 97]) = true := lit_is h6
    clear h0 h1 h2 h3 h4 h5 h6 CN
    go_enter Tryz.func81, Tryz.ntmps81
    go_wp2
    go_ret
    exact ⟨rfl, Below.refl _ _⟩
  by_cases h7 : s.data.toList = [114, 97, 114, 114]
  · rw [tight_yes (by rw [h7]; decide)]
    have k0 : (s.toList == [110, 111, 116, 105, 110]) = false := lit_ne h7 (by decide)
    have k1 : (s.toList == [101, 117, 114, 111]) = false := lit_ne h7 (by decide)
    have k2 : (s.toList == [104, 101, 108, 108, 105, 112]) = false := lit_ne h7 (by decide)
    have k3 : (s.toList == [109, 100, 97, 115, 104]) = false := lit_ne h7 (by decide)
    have k4 : (s.toList == [110, 100, 97, 115, 104]) = false := lit_ne h7 (by decide)
    have k5 : (s.toList == [97, 108, 112, 104, 97]) = false := lit_ne h7 (by decide)
    have k6 : (s.toList == [98, 101, 116, 97]) = false := lit_ne h7 (by decide)
    have k7 : (s.toList == [114, 97, 114, 114]) = true := lit_is h7
    clear h0 h1 h2 h3 h4 h5 h6 h7 CN
    go_enter Tryz.func81, Tryz.ntmps81
    go_wp2
    go_ret
    exact ⟨rfl, Below.refl _ _⟩
  by_cases h8 : s.data.toList = [108, 97, 114, 114]
  · rw [tight_yes (by rw [h8]; decide)]
    have k0 : (s.toList == [110, 111, 116, 105, 110]) = false := lit_ne h8 (by decide)
    have k1 : (s.toList == [101, 117, 114, 111]) = false := lit_ne h8 (by decide)
    have k2 : (s.toList == [104, 101, 108, 108, 105, 112]) = false := lit_ne h8 (by decide)
    have k3 : (s.toList == [109, 100, 97, 115, 104]) = false := lit_ne h8 (by decide)
    have k4 : (s.toList == [110, 100, 97, 115, 104]) = false := lit_ne h8 (by decide)
    have k5 : (s.toList == [97, 108, 112, 104, 97]) = false := lit_ne h8 (by decide)
    have k6 : (s.toList == [98, 101, 116, 97]) = false := lit_ne h8 (by decide)
    have k7 : (s.toList == [114, 97, 114, 114]) = false := lit_ne h8 (by decide)
    have k8 : (s.toList == [108, 97, 114, 114]) = true := lit_is h8
    clear h0 h1 h2 h3 h4 h5 h6 h7 h8 CN
    go_enter Tryz.func81, Tryz.ntmps81
    go_wp2
    go_ret
    exact ⟨rfl, Below.refl _ _⟩
  by_cases h9 : s.data.toList = [97, 112, 111, 115]
  · rw [tight_yes (by rw [h9]; decide)]
    have k0 : (s.toList == [110, 111, 116, 105, 110]) = false := lit_ne h9 (by decide)
    have k1 : (s.toList == [101, 117, 114, 111]) = false := lit_ne h9 (by decide)
    have k2 : (s.toList == [104, 101, 108, 108, 105, 112]) = false := lit_ne h9 (by decide)
    have k3 : (s.toList == [109, 100, 97, 115, 104]) = false := lit_ne h9 (by decide)
    have k4 : (s.toList == [110, 100, 97, 115, 104]) = false := lit_ne h9 (by decide)
    have k5 : (s.toList == [97, 108, 112, 104, 97]) = false := lit_ne h9 (by decide)
    have k6 : (s.toList == [98, 101, 116, 97]) = false := lit_ne h9 (by decide)
    have k7 : (s.toList == [114, 97, 114, 114]) = false := lit_ne h9 (by decide)
    have k8 : (s.toList == [108, 97, 114, 114]) = false := lit_ne h9 (by decide)
    have k9 : (s.toList == [97, 112, 111, 115]) = true := lit_is h9
    clear h0 h1 h2 h3 h4 h5 h6 h7 h8 h9 CN
    go_enter Tryz.func81, Tryz.ntmps81
    go_wp2
    go_ret
    exact ⟨rfl, Below.refl _ _⟩
  rw [tight_no (l := s.data.toList) (by unfold tightT; simp only [List.mem_cons, List.not_mem_nil, or_false, not_or]; exact ⟨h0, h1, h2, h3, h4, h5, h6, h7, h8, h9⟩)]
  have k0 : (s.toList == [110, 111, 116, 105, 110]) = false := lit_no h0
  have k1 : (s.toList == [101, 117, 114, 111]) = false := lit_no h1
  have k2 : (s.toList == [104, 101, 108, 108, 105, 112]) = false := lit_no h2
  have k3 : (s.toList == [109, 100, 97, 115, 104]) = false := lit_no h3
  have k4 : (s.toList == [110, 100, 97, 115, 104]) = false := lit_no h4
  have k5 : (s.toList == [97, 108, 112, 104, 97]) = false := lit_no h5
  have k6 : (s.toList == [98, 101, 116, 97]) = false := lit_no h6
  have k7 : (s.toList == [114, 97, 114, 114]) = false := lit_no h7
  have k8 : (s.toList == [108, 97, 114, 114]) = false := lit_no h8
  have k9 : (s.toList == [97, 112, 111, 115]) = false := lit_no h9
  clear h0 h1 h2 h3 h4 h5 h6 h7 h8 h9
  generalize nameC s.data.toList = c at *
  by_cases h : c = 0
  · subst h
    go_enter Tryz.func81, Tryz.ntmps81
    go_wp2_with fail
    refine (unhide CN _).mono ?_
    rintro e w1 ⟨rfl, hb1⟩
    go_wp2
    go_ret
    exact ⟨rfl, hb1⟩
  · have hc : (c != 0) = true := by simpa using h
    rw [decide_eq_true h]
    clear h
    go_enter Tryz.func81, Tryz.ntmps81
    go_wp2_with fail
    refine (unhide CN _).mono ?_
    rintro e w1 ⟨rfl, hb1⟩
    go_wp2
    go_ret
    exact ⟨rfl, hb1⟩
end Go.Proofs.YtakjlolmmoladaaGreatDoor

/-
  What the reference's Escape does: any text with references.
-/
namespace Go.Proofs.YtakjlolmmoladaaGreatDoor
open Go.RowKit
set_option linter.unusedVariables false

def ampL : List UInt8 := [38, 97, 109, 112, 59]
def ltL : List UInt8 := [38, 108, 116, 59]
def gtL : List UInt8 := [38, 103, 116, 59]
def quotL : List UInt8 := [38, 113, 117, 111, 116, 59]
def nbspL : List UInt8 := [38, 110, 98, 115, 112, 59]
def hd160 : List UInt8 → Bool
  | [] => false
  | c :: _ => decide (c.toNat = 160)
/-- The text with references; the flag: the first byte is passed over. -/
def escS (v : Bool) : Bool → List UInt8 → List UInt8
  | _, [] => []
  | true, _ :: l => escS v false l
  | false, c :: l =>
    if c.toNat = 38 then ampL ++ escS v false l else if c.toNat = 60 then ltL ++ escS v false l else if c.toNat = 62 then gtL ++ escS v false l
    else if c.toNat = 34 then (if v = true then quotL else [34]) ++ escS v false l
    else if c.toNat = 194 ∧ hd160 l = true then nbspL ++ escS v true l else c :: escS v false l
def escL (v : Bool) (l : List UInt8) : List UInt8 := escS v false l
theorem hd160_at (l : List UInt8) (k : Nat) : hd160 (l.drop k) = decide (atB l k = 160) := by
  unfold atB
  by_cases h : k < l.length
  · obtain ⟨c, hc, hn⟩ := drop_at l k h
    rw [if_pos h, hc, hd160, hn]
  · rw [if_neg h, List.drop_eq_nil_of_le (by omega)]; rfl
theorem esc_38 {v : Bool} {l : List UInt8} {k : Nat} (hk : k < l.length) (h : dgt l k = 38) : escL v (l.drop k) = ampL ++ escL v (l.drop (k + 1)) := by
  obtain ⟨c, hc, hn⟩ := drop_at l k hk
  rw [escL, hc, escS, if_pos (by omega)]; rfl
theorem esc_60 {v : Bool} {l : List UInt8} {k : Nat} (hk : k < l.length) (h : dgt l k = 60) : escL v (l.drop k) = ltL ++ escL v (l.drop (k + 1)) := by
  obtain ⟨c, hc, hn⟩ := drop_at l k hk
  rw [escL, hc, escS, if_neg (by omega), if_pos (by omega)]; rfl
theorem esc_62 {v : Bool} {l : List UInt8} {k : Nat} (hk : k < l.length) (h : dgt l k = 62) : escL v (l.drop k) = gtL ++ escL v (l.drop (k + 1)) := by
  obtain ⟨c, hc, hn⟩ := drop_at l k hk
  rw [escL, hc, escS, if_neg (by omega), if_neg (by omega), if_pos (by omega)]; rfl
theorem esc_34 {v : Bool} {l : List UInt8} {k : Nat} (hk : k < l.length) (h : dgt l k = 34) : escL v (l.drop k) = (if v = true then quotL else [34]) ++ escL v (l.drop (k + 1)) := by
  obtain ⟨c, hc, hn⟩ := drop_at l k hk
  rw [escL, hc, escS, if_neg (by omega), if_neg (by omega), if_neg (by omega), if_pos (by omega)]; rfl
theorem esc_160 {v : Bool} {l : List UInt8} {k : Nat} (hk : k + 1 < l.length) (h : dgt l k = 194) (h2 : atB l (k + 1) = 160) : escL v (l.drop k) = nbspL ++ escL v (l.drop (k + 2)) := by
  obtain ⟨c, hc, hn⟩ := drop_at l k (by omega)
  obtain ⟨c2, hc2, _⟩ := drop_at l (k + 1) hk
  have h3 : hd160 (l.drop (k + 1)) = true := by rw [hd160_at, h2]; rfl
  rw [escL, hc, escS, if_neg (by omega), if_neg (by omega), if_neg (by omega), if_neg (by omega), if_pos ⟨by omega, h3⟩, hc2, escS]; rfl
theorem esc_other {v : Bool} {l : List UInt8} {k : Nat} (hk : k < l.length) (h0 : ¬ dgt l k = 38) (h1 : ¬ dgt l k = 60) (h2 : ¬ dgt l k = 62) (h3 : ¬ dgt l k = 34) (h4 : ¬ (dgt l k = 194 ∧ atB l (k + 1) = 160)) :
    escL v (l.drop k) = byt (dgt l k : Int) :: escL v (l.drop (k + 1)) := by
  obtain ⟨c, hc, hn⟩ := drop_at l k hk
  have h5 : ¬ (c.toNat = 194 ∧ hd160 (l.drop (k + 1)) = true) := by rw [hd160_at]; simp; omega
  rw [escL, hc, escS, if_neg (by omega), if_neg (by omega), if_neg (by omega), if_neg (by omega), if_neg h5, ← hn, byt_self]; rfl
theorem at_lt {l : List UInt8} {k : Nat} (h : atB l k = 160) : k < l.length := by
  unfold atB at h; split at h
  · assumption
  · omega
theorem one_atE (s : ByteArray) (k : Nat) (h : k < s.size) : s.extract k (k + 1) = bs [byt (dgt s.data.toList k)] := by
  obtain ⟨c, hc, hn⟩ := drop_at s.data.toList k (by rw [data_len]; exact h)
  rw [extract_take, hc, ← hn, byt_self]; rfl
theorem bsArr (l : List UInt8) : (⟨l.toArray⟩ : ByteArray) = bs l := rfl

end Go.Proofs.YtakjlolmmoladaaGreatDoor

/-
  A text with references: how its bytes and the characters that a range over it meets hang together.
-/
namespace Go.Proofs.YtakjlolmmoladaaGreatDoor
open Go.RowKit
set_option linter.unusedVariables false

theorem cut_ex (s : ByteArray) (a b : Nat) : s.extract a b = bs ((s.data.toList.drop a).take (b - a)) := by
  rw [Lib.extract_eq]; rfl
theorem get_dgt (s : ByteArray) (k : Nat) : (s.get! k).toNat = dgt s.data.toList k := by
  unfold dgt
  by_cases h : k < s.size
  · have h' : k < s.data.toList.length := by simpa using h
    rw [List.getD, List.getElem?_eq_getElem h']
    simp [ByteArray.get!, getElem!_pos, h]
  · have h' : ¬ k < s.data.toList.length := by simpa using h
    rw [List.getD, List.getElem?_eq_none (by omega)]
    simp only [ByteArray.get!]
    rw [getElem!_neg _ _ (by simpa using h)]
    rfl
theorem atB_dgt (l : List UInt8) (k : Nat) : atB l k = dgt l k := by
  unfold atB
  split
  · rfl
  · rename_i h
    unfold dgt
    rw [List.getD, List.getElem?_eq_none (by omega)]; rfl

theorem decN_low {n b0 b1 b2 b3 : Nat} (h : b0 < 128) : Lib.decodeN n b0 b1 b2 b3 = (b0, 1) := by
  unfold Lib.decodeN; rw [if_pos h]
theorem decN_nb {n b0 b1 b2 b3 : Nat} (h0 : b0 = 194) (h1 : b1 = 160) (hn : 1 < n) : Lib.decodeN n b0 b1 b2 b3 = (160, 2) := by
  subst h0; subst h1
  unfold Lib.decodeN
  rw [if_neg (by omega), if_pos (by omega), if_pos (by omega)]
theorem decN_high {n b0 b1 b2 b3 : Nat} (h : 128 ≤ b0) (h' : b0 < 256) (hn : 1 ≤ n) :
    128 ≤ (Lib.decodeN n b0 b1 b2 b3).1 ∧ 1 ≤ (Lib.decodeN n b0 b1 b2 b3).2 ∧ (Lib.decodeN n b0 b1 b2 b3).2 ≤ n ∧ (Lib.decodeN n b0 b1 b2 b3).2 ≤ 4
    ∧ ((Lib.decodeN n b0 b1 b2 b3).1 = 160 → b0 = 194 ∧ b1 = 160 ∧ 1 < n ∧ (Lib.decodeN n b0 b1 b2 b3).2 = 2)
    ∧ (1 < (Lib.decodeN n b0 b1 b2 b3).2 → 128 ≤ b1 ∧ b1 < 192) ∧ (2 < (Lib.decodeN n b0 b1 b2 b3).2 → 128 ≤ b2 ∧ b2 < 192) ∧ (3 < (Lib.decodeN n b0 b1 b2 b3).2 → 128 ≤ b3 ∧ b3 < 192) := by
  unfold Lib.decodeN
  repeat' split
  all_goals simp only []
  all_goals first | omega | (simp only [and_true]; omega)

theorem esc_run (v : Bool) (l : List UInt8) : ∀ (n k : Nat), k + n ≤ l.length → (∀ j, j < n → 128 ≤ dgt l (k + j) ∧ ¬ (dgt l (k + j) = 194 ∧ atB l (k + j + 1) = 160)) →
    escL v (l.drop k) = (l.drop k).take n ++ escL v (l.drop (k + n))
  | 0, k, _, _ => by simp
  | n + 1, k, hl, h => by
    have h0 := h 0 (by omega)
    rw [Nat.add_zero] at h0
    have hk : k < l.length := by omega
    obtain ⟨c, hc, hn⟩ := drop_at l k hk
    rw [esc_other hk (by omega) (by omega) (by omega) (by omega) h0.2, ← hn, byt_self, hc, List.take_succ_cons, List.cons_append]
    have := esc_run v l n (k + 1) (by omega) (fun j hj => by have := h (j + 1) (by omega); rw [show k + (j + 1) = k + 1 + j by omega] at this; exact this)
    rw [this, show k + 1 + n = k + (n + 1) by omega]

/-- What the range meets at a place, and what is made of it. -/
theorem esc_at (v : Bool) (s : ByteArray) (k : Nat) (hk : k < s.size) :
    (forN ((Utf8.decode s k).1 : Int) v = [] ∧ 1 ≤ (Utf8.decode s k).2 ∧ k + (Utf8.decode s k).2 ≤ s.size ∧ escL v (s.data.toList.drop k) = (s.data.toList.drop k).take (Utf8.decode s k).2 ++ escL v (s.data.toList.drop (k + (Utf8.decode s k).2)))
    ∨ (forN ((Utf8.decode s k).1 : Int) v ≠ [] ∧ (forN ((Utf8.decode s k).1 : Int) v).length ≤ 4 ∧ isC ((Utf8.decode s k).1 : Int) = true ∧ (ub ((Utf8.decode s k).1 : Int)).length = (Utf8.decode s k).2 ∧ 1 ≤ (Utf8.decode s k).2 ∧ k + (Utf8.decode s k).2 ≤ s.size
      ∧ escL v (s.data.toList.drop k) = ([38] ++ forN ((Utf8.decode s k).1 : Int) v ++ [59]) ++ escL v (s.data.toList.drop (k + (Utf8.decode s k).2))) := by
  have hkl : k < s.data.toList.length := by rw [data_len]; exact hk
  have e := Lib.decode_at s k
  rw [get_dgt, get_dgt, get_dgt, get_dgt] at e
  by_cases hlow : dgt s.data.toList k < 128
  · rw [decN_low hlow] at e
    rw [e]
    have hkl2 : k + 1 ≤ s.size := by omega
    simp only
    by_cases h38 : dgt s.data.toList k = 38
    · rw [h38, esc_38 hkl h38]
      exact .inr ⟨by decide +revert, by decide +revert, by decide, by decide, by omega, by omega, by cases v <;> rfl⟩
    by_cases h60 : dgt s.data.toList k = 60
    · rw [h60, esc_60 hkl h60]
      exact .inr ⟨by decide +revert, by decide +revert, by decide, by decide, by omega, by omega, by cases v <;> rfl⟩
    by_cases h62 : dgt s.data.toList k = 62
    · rw [h62, esc_62 hkl h62]
      exact .inr ⟨by decide +revert, by decide +revert, by decide, by decide, by omega, by omega, by cases v <;> rfl⟩
    have hone : (s.data.toList.drop k).take 1 = [byt (dgt s.data.toList k : Int)] := by
      obtain ⟨c, hc, hn⟩ := drop_at s.data.toList k hkl
      rw [hc, ← hn, byt_self]; rfl
    by_cases h34 : dgt s.data.toList k = 34
    · cases v with
      | true =>
        rw [h34, esc_34 hkl h34]
        exact .inr ⟨by decide, by decide, by decide, by decide, by omega, by omega, rfl⟩
      | false =>
        rw [hone, h34, esc_34 hkl h34]
        exact .inl ⟨by decide, by omega, by omega, rfl⟩
    · rw [hone, esc_other hkl h38 h60 h62 h34 (by omega)]
      refine .inl ⟨?_, by omega, by omega, rfl⟩
      unfold forN
      rw [if_neg (by omega), if_neg (by omega), if_neg (by omega), if_neg (by omega), if_neg (by omega)]
  · have hd := decN_high (n := s.size - k) (b0 := dgt s.data.toList k) (b1 := dgt s.data.toList (k + 1)) (b2 := dgt s.data.toList (k + 2)) (b3 := dgt s.data.toList (k + 3)) (by omega) (dgt_lt _ _) (by omega)
    have hnb := decN_nb (n := s.size - k) (b0 := dgt s.data.toList k) (b1 := dgt s.data.toList (k + 1)) (b2 := dgt s.data.toList (k + 2)) (b3 := dgt s.data.toList (k + 3))
    rw [← e] at hd hnb
    obtain ⟨d1, d2, d3, d4, d5, d6, d7, d8⟩ := hd
    by_cases h160 : (Utf8.decode s k).1 = 160
    · obtain ⟨q1, q2, q3, q4⟩ := d5 h160
      rw [h160, q4, esc_160 (by rw [data_len]; omega) q1 (by rw [atB_dgt]; exact q2)]
      exact .inr ⟨by decide +revert, by decide +revert, by decide, by decide, by omega, by omega, by cases v <;> rfl⟩
    · have hf : forN ((Utf8.decode s k).1 : Int) v = [] := by
        unfold forN
        rw [if_neg (by omega), if_neg (by omega), if_neg (by omega), if_neg (by omega), if_neg (by omega)]
      refine .inl ⟨hf, d2, by omega, esc_run v s.data.toList _ k (by rw [data_len]; omega) (fun j hj => ?_)⟩
      rw [atB_dgt]
      have hj4 : j = 0 ∨ j = 1 ∨ j = 2 ∨ j = 3 := by omega
      rcases hj4 with rfl | rfl | rfl | rfl
      · refine ⟨by rw [Nat.add_zero]; omega, fun h => ?_⟩
        rw [Nat.add_zero] at h
        by_cases hn : 1 < s.size - k
        · exact h160 (by rw [hnb h.1 h.2 hn])
        · have : dgt s.data.toList (k + 1) = 0 := by
            unfold dgt; rw [List.getD, List.getElem?_eq_none (by rw [data_len]; omega)]; rfl
          omega
      · have := d6 hj; exact ⟨by omega, by omega⟩
      · have := d7 hj; exact ⟨by omega, by omega⟩
      · have := d8 hj; exact ⟨by omega, by omega⟩
end Go.Proofs.YtakjlolmmoladaaGreatDoor

/-
  What the reference's 'named' does: a reference by a name, as long as it may be.
-/
namespace Go.Proofs.YtakjlolmmoladaaGreatDoor
open Go.RowKit
set_option linter.unusedVariables false

def refV (i : Nat) (r : Option (Int × Nat)) : Value := match r with | none => gotR [] (-1) | some (c, n) => gotR (ub c) ((i : Int) + (n : Int))
theorem onB_at (l : List UInt8) (q : Nat) : onB (l.drop q) = (decide (atB l q = 61) || (ltN (atB l q) || dgN (atB l q))) := by
  unfold onB atB
  rw [dgt_drop, Nat.add_zero, List.length_drop]
  by_cases h : q < l.length
  · rw [if_pos h, decide_eq_true (show 0 < l.length - q by omega), Bool.true_and]
    cases ltN (dgt l q) <;> cases dgN (dgt l q) <;> cases decide (dgt l q = 61) <;> rfl
  · rw [if_neg h, decide_eq_false (show ¬ 0 < l.length - q by omega)]; rfl
theorem hit_short {m : List UInt8} {v : Bool} {n : Nat} (h : m.length < n + 1) : refF m v (n + 1) = refF m v n := by
  rw [refF]
  have h1 : hitS m (n + 1) = false := decide_eq_false (fun x => by have := x.1; omega)
  have h2 : hitB m v (n + 1) = false := decide_eq_false (fun x => by have := x.1; omega)
  rw [h1, h2]; rfl
theorem hit_S {m : List UInt8} {v : Bool} {n : Nat} (h : n + 1 ≤ m.length) (h1 : dgt m n = 59) (h2 : nameC (m.take n) ≠ 0) : refF m v (n + 1) = some (nameC (m.take n), n + 1) := by
  rw [refF]
  have : hitS m (n + 1) = true := decide_eq_true ⟨h, h1, h2⟩
  rw [this]; rfl
theorem hit_B {m : List UInt8} {v : Bool} {n : Nat} (h : n + 1 ≤ m.length) (h1 : ¬ (dgt m n = 59 ∧ nameC (m.take n) ≠ 0)) (h2 : looseB (m.take (n + 1)) = true) (h3 : (v && onB (m.drop (n + 1))) = false) : refF m v (n + 1) = some (nameC (m.take (n + 1)), n + 1) := by
  rw [refF]
  have e1 : hitS m (n + 1) = false := decide_eq_false (fun x => h1 x.2)
  have e2 : hitB m v (n + 1) = true := decide_eq_true ⟨h, h2, by rw [← Bool.and_eq_true, h3]; decide⟩
  rw [e1, e2]; rfl
theorem hit_no {m : List UInt8} {v : Bool} {n : Nat} (h1 : ¬ (dgt m n = 59 ∧ nameC (m.take n) ≠ 0)) (h2 : looseB (m.take (n + 1)) = false ∨ (v && onB (m.drop (n + 1))) = true) : refF m v (n + 1) = refF m v n := by
  rw [refF]
  have e1 : hitS m (n + 1) = false := decide_eq_false (fun x => h1 x.2)
  have e2 : hitB m v (n + 1) = false := decide_eq_false (fun x => by
    rcases h2 with h2 | h2
    · rw [h2] at x; exact absurd x.2.1 (by decide)
    · rw [Bool.and_eq_true] at h2; exact x.2.2 h2)
  rw [e1, e2]; rfl

set_option maxHeartbeats 8000000 in
set_option maxRecDepth 100000 in
theorem named_is (s : ByteArray) (i : Nat) (v : Bool) (m : List UInt8) (hm : s.data.toList.drop i = m) (w : World) (hs : s.size ≤ 100000) (hi : i ≤ s.size) :
    Calls Tryz.prog 59 #[.string s, .int .i64 (i : Int), .bool v] w fun e w' => e = .returned (refV i (refL m v)) ∧ Below w.heap.size w w' := by
  have HM := hide hm
  clear hm
  go_enter Tryz.func59, Tryz.ntmps59
  go_wp2
  go_loopw [7] (fun a wr => ∃ k : Nat, k ≤ 7 ∧ a = .int .i64 (k : Int) ∧ refL m v = refF m v k ∧ Below (w.alloc (.cells #[.string ⟨#[]⟩, .int .i64 0] 66)).heap.size (w.alloc (.cells #[.string ⟨#[]⟩, .int .i64 0] 66)) wr) (fun a _ => (intOf a).toNat)
  case atStart => exact ⟨7, Nat.le_refl _, rfl, rfl, Below.refl _ _⟩
  case round =>
    obtain ⟨k, hk, rfl, hr, hbw⟩ := hrel
    have hzw : w.heap.size < wr.heap.size := by have := hbw.size; simp at this; omega
    cases k with
    | zero =>
      have HR := hide hr
      obtain ⟨hc, hf⟩ := bcell hbw
      clear hr
      go_wp2
      exact bodyPost_ret (v := gotR [] (-1)) (by simp [results, Tryz.results59, go_sem, gotR, bs, hc]) rfl ⟨by rw [unhide HR]; rfl, ((bel_of hbw).setCell (by simp) _).setCell (by simp) _⟩
    | succ j =>
      have hml : m.length = s.size - i := by rw [← unhide HM, List.length_drop, data_len]
      by_cases hlen : s.size - i < j + 1
      · have hsh := hit_short (v := v) (m := m) (n := j) (by omega)
        rw [hsh] at hr
        have HR := hide hr
        have hli : (s.size : Int) - (i : Int) < (j : Int) + 1 := by omega
        clear hr hsh
        go_wp2
        go_roundw
        case rel => exact ⟨j, by omega, by first | rfl | (congr 1; omega) | go_num, unhide HR, hbw⟩
        case measure => simp [intOf]
      · have hli : ¬ (s.size : Int) - (i : Int) < (j : Int) + 1 := by omega
        have hlo : (i : Int) + ((j : Int) + 1) ≤ (s.size : Int) := by omega
        obtain ⟨y, hy⟩ : ∃ y, s.extract i (i + (j + 1)) = y := ⟨_, rfl⟩
        have hyl : y.data.toList = m.take (j + 1) := by rw [← hy, extract_take, bs_toList, unhide HM]
        have hyz : y.size = j + 1 := by rw [← data_len, hyl, List.length_take, hml]; omega
        have hy0 : (y.extract 0 j).data.toList = m.take j := by
          rw [cut_ex, bs_toList, hyl, List.drop_zero, List.take_take]; congr 1; omega
        have e0 := dgt_at y j (by omega)
        have hdm : dgt y.data.toList j = dgt m j := by
          rw [hyl]; unfold dgt; rw [List.getD, List.getD, List.getElem?_take, if_pos (by omega)]
        rw [hdm] at e0
        have CA := hide (fun w => rat_at s (i + (j + 1)) w (by omega) (by omega))
        have hon := onB_at s.data.toList (i + (j + 1))
        rw [← List.drop_drop, unhide HM] at hon
        have CN1 := hide (fun w => rname_any (y.extract 0 j) w)
        rw [hy0] at CN1
        have CN2 := hide (fun w => rname_any y w)
        have CO := hide (fun w => rloose_any y w)
        rw [hyl] at CN2 CO
        have CB1 := hide (fun w h => rbytes_char (nameC (m.take j)) w (name_char h))
        have CB2 := hide (fun w h => rbytes_char (nameC (m.take (j + 1))) w (loose_char h))
        have hS := hit_S (v := v) (m := m) (n := j) (by omega)
        have hB := hit_B (v := v) (m := m) (n := j) (by omega)
        have hN := hit_no (v := v) (m := m) (n := j)
        have CL := hide (rletter_any (atB s.data.toList (i + (j + 1))))
        have CD := hide (rdigit_any (atB s.data.toList (i + (j + 1))))
        rw [hon] at hB hN
        have HR := hide hr
        clear hr hon hdm hyl hy0 hml
        generalize dgt m j = b at *
        generalize nameC (m.take j) = c1 at *
        generalize nameC (m.take (j + 1)) = c2 at *
        generalize looseB (m.take (j + 1)) = ob at *
        generalize atB s.data.toList (i + (j + 1)) = ab at *
        generalize ltN ab = lb at *
        generalize dgN ab = db at *
        have hy' : s.extract i (i + j + 1) = y := hy
        rw [Int.natCast_add, Int.natCast_add] at CA
        by_cases hA : b = 59 ∧ c1 ≠ 0
        · obtain ⟨hb59, hc1⟩ := hA
          subst hb59
          have HV := hide (hS rfl hc1)
          have CB := hide (fun w => unhide CB1 w hc1)
          have nc1 : (c1 != 0) = true := by simpa using hc1
          have nc1' : (c1 == 0) = false := by simpa using hc1
          clear hS hB hN CB1 CB2 CO CA CL CD CN2 hc1
          go_wp2_with fail
          refine (unhide CN1 _).mono ?_
          rintro e1 w2 ⟨rfl, hb_w2⟩
          go_wp2_with fail
          refine (unhide CN1 _).mono ?_
          rintro e1 w3 ⟨rfl, hb_w3⟩
          go_wp2_with fail
          refine (unhide CB _).mono ?_
          rintro e1 w4 ⟨rfl, hb_w4⟩
          have hbz := hbw
          have hbz := tr2 hbz hb_w2
          have hbz := tr2 hbz hb_w3
          have hbz := tr2 hbz hb_w4
          have hz : w.heap.size < w4.heap.size := by have := hbz.size; simp at this; omega
          obtain ⟨hc, hf⟩ := bcell hbz
          go_wp2
          exact bodyPost_ret (v := gotR (ub c1) ((i : Int) + ((j : Int) + 1))) (by simp [results, Tryz.results59, go_sem, gotR, hc, str_ub]) rfl ⟨by rw [unhide HR, unhide HV]; rfl, ((bel_of hbz).setCell (by simp) _).setCell (by simp) _⟩
        have hN' := hN hA
        have hB' := hB hA
        clear hS hB hN CB1
        by_cases h59 : ¬ b = 59
        · have n59 : ((b : Int) == 59) = false := bneI (by omega)
          clear hA h59 CN1
          cases v with
          | false =>
            rw [Bool.false_and] at hN' hB'
            clear CL CD
            cases ob with
            | false =>
              have HV := hide (hN' (.inl rfl))
              clear hN' hB' CB2 CN2
              go_wp2_with fail
              refine (unhide CA _).mono ?_
              rintro e1 w5 ⟨rfl, rfl⟩
              go_wp2_with fail
              refine (unhide CO _).mono ?_
              rintro e1 w7 ⟨rfl, hb_w7⟩
              have hbz := hbw
              have hbz := tr2 hbz hb_w7
              go_wp2
              go_roundw
              case rel => exact ⟨j, by omega, by first | rfl | (congr 1; omega) | go_num, by rw [unhide HR, unhide HV], hbz⟩
              case measure => simp [intOf]
            | true =>
              have HV := hide (hB' rfl rfl)
              have CB := hide (fun w => unhide CB2 w rfl)
              clear hN' hB' CB2
              go_wp2_with fail
              refine (unhide CA _).mono ?_
              rintro e1 w5 ⟨rfl, rfl⟩
              go_wp2_with fail
              refine (unhide CO _).mono ?_
              rintro e1 w7 ⟨rfl, hb_w7⟩
              go_wp2_with fail
              refine (unhide CN2 _).mono ?_
              rintro e1 w8 ⟨rfl, hb_w8⟩
              go_wp2_with fail
              refine (unhide CB _).mono ?_
              rintro e1 w9 ⟨rfl, hb_w9⟩
              have hbz := hbw
              have hbz := tr2 hbz hb_w7
              have hbz := tr2 hbz hb_w8
              have hbz := tr2 hbz hb_w9
              have hz : w.heap.size < w9.heap.size := by have := hbz.size; simp at this; omega
              obtain ⟨hc, hf⟩ := bcell hbz
              go_wp2
              exact bodyPost_ret (v := gotR (ub c2) ((i : Int) + ((j : Int) + 1))) (by simp [results, Tryz.results59, go_sem, gotR, hc, str_ub]) rfl ⟨by rw [unhide HR, unhide HV]; rfl, ((bel_of hbz).setCell (by simp) _).setCell (by simp) _⟩
          | true =>
            rw [Bool.true_and] at hN' hB'
            by_cases h61 : ab = 61
            · subst h61
              rw [decide_eq_true rfl, Bool.true_or] at hN' hB'
              clear CL CD
              cases ob with
              | false =>
                have HV := hide (hN' (.inl rfl))
                clear hN' hB' CB2 CN2
                go_wp2_with fail
                refine (unhide CA _).mono ?_
                rintro e1 w5 ⟨rfl, rfl⟩
                go_wp2_with fail
                refine (unhide CO _).mono ?_
                rintro e1 w7 ⟨rfl, hb_w7⟩
                have hbz := hbw
                have hbz := tr2 hbz hb_w7
                go_wp2
                go_roundw
                case rel => exact ⟨j, by omega, by first | rfl | (congr 1; omega) | go_num, by rw [unhide HR, unhide HV], hbz⟩
                case measure => simp [intOf]
              | true =>
                have HV := hide (hN' (.inr rfl))
                clear hN' hB' CB2 CN2
                go_wp2_with fail
                refine (unhide CA _).mono ?_
                rintro e1 w5 ⟨rfl, rfl⟩
                go_wp2_with fail
                refine (unhide CO _).mono ?_
                rintro e1 w7 ⟨rfl, hb_w7⟩
                have hbz := hbw
                have hbz := tr2 hbz hb_w7
                go_wp2
                go_roundw
                case rel => exact ⟨j, by omega, by first | rfl | (congr 1; omega) | go_num, by rw [unhide HR, unhide HV], hbz⟩
                case measure => simp [intOf]
            · have n61 : ((ab : Int) == 61) = false := bneI (by omega)
              rw [decide_eq_false h61, Bool.false_or] at hN' hB'
              clear h61
              cases lb with
              | true =>
                rw [Bool.true_or] at hN' hB'
                clear CD
                cases ob with
                | false =>
                  have HV := hide (hN' (.inl rfl))
                  clear hN' hB' CB2 CN2
                  go_wp2_with fail
                  refine (unhide CA _).mono ?_
                  rintro e1 w5 ⟨rfl, rfl⟩
                  go_wp2_with fail
                  refine (unhide CL _).mono ?_
                  rintro e1 w6 ⟨rfl, rfl⟩
                  go_wp2_with fail
                  refine (unhide CO _).mono ?_
                  rintro e1 w7 ⟨rfl, hb_w7⟩
                  have hbz := hbw
                  have hbz := tr2 hbz hb_w7
                  go_wp2
                  go_roundw
                  case rel => exact ⟨j, by omega, by first | rfl | (congr 1; omega) | go_num, by rw [unhide HR, unhide HV], hbz⟩
                  case measure => simp [intOf]
                | true =>
                  have HV := hide (hN' (.inr rfl))
                  clear hN' hB' CB2 CN2
                  go_wp2_with fail
                  refine (unhide CA _).mono ?_
                  rintro e1 w5 ⟨rfl, rfl⟩
                  go_wp2_with fail
                  refine (unhide CL _).mono ?_
                  rintro e1 w6 ⟨rfl, rfl⟩
                  go_wp2_with fail
                  refine (unhide CO _).mono ?_
                  rintro e1 w7 ⟨rfl, hb_w7⟩
                  have hbz := hbw
                  have hbz := tr2 hbz hb_w7
                  go_wp2
                  go_roundw
                  case rel => exact ⟨j, by omega, by first | rfl | (congr 1; omega) | go_num, by rw [unhide HR, unhide HV], hbz⟩
                  case measure => simp [intOf]
              | false =>
                rw [Bool.false_or] at hN' hB'
                cases db with
                | true =>
                  cases ob with
                  | false =>
                    have HV := hide (hN' (.inl rfl))
                    clear hN' hB' CB2 CN2
                    go_wp2_with fail
                    refine (unhide CA _).mono ?_
                    rintro e1 w5 ⟨rfl, rfl⟩
                    go_wp2_with fail
                    refine (unhide CL _).mono ?_
                    rintro e1 w6 ⟨rfl, rfl⟩
                    go_wp2_with fail
                    refine (unhide CD _).mono ?_
                    rintro e1 w6 ⟨rfl, rfl⟩
                    go_wp2_with fail
                    refine (unhide CO _).mono ?_
                    rintro e1 w7 ⟨rfl, hb_w7⟩
                    have hbz := hbw
                    have hbz := tr2 hbz hb_w7
                    go_wp2
                    go_roundw
                    case rel => exact ⟨j, by omega, by first | rfl | (congr 1; omega) | go_num, by rw [unhide HR, unhide HV], hbz⟩
                    case measure => simp [intOf]
                  | true =>
                    have HV := hide (hN' (.inr rfl))
                    clear hN' hB' CB2 CN2
                    go_wp2_with fail
                    refine (unhide CA _).mono ?_
                    rintro e1 w5 ⟨rfl, rfl⟩
                    go_wp2_with fail
                    refine (unhide CL _).mono ?_
                    rintro e1 w6 ⟨rfl, rfl⟩
                    go_wp2_with fail
                    refine (unhide CD _).mono ?_
                    rintro e1 w6 ⟨rfl, rfl⟩
                    go_wp2_with fail
                    refine (unhide CO _).mono ?_
                    rintro e1 w7 ⟨rfl, hb_w7⟩
                    have hbz := hbw
                    have hbz := tr2 hbz hb_w7
                    go_wp2
                    go_roundw
                    case rel => exact ⟨j, by omega, by first | rfl | (congr 1; omega) | go_num, by rw [unhide HR, unhide HV], hbz⟩
                    case measure => simp [intOf]
                | false =>
                  cases ob with
                  | false =>
                    have HV := hide (hN' (.inl rfl))
                    clear hN' hB' CB2 CN2
                    go_wp2_with fail
                    refine (unhide CA _).mono ?_
                    rintro e1 w5 ⟨rfl, rfl⟩
                    go_wp2_with fail
                    refine (unhide CL _).mono ?_
                    rintro e1 w6 ⟨rfl, rfl⟩
                    go_wp2_with fail
                    refine (unhide CD _).mono ?_
                    rintro e1 w6 ⟨rfl, rfl⟩
                    go_wp2_with fail
                    refine (unhide CO _).mono ?_
                    rintro e1 w7 ⟨rfl, hb_w7⟩
                    have hbz := hbw
                    have hbz := tr2 hbz hb_w7
                    go_wp2
                    go_roundw
                    case rel => exact ⟨j, by omega, by first | rfl | (congr 1; omega) | go_num, by rw [unhide HR, unhide HV], hbz⟩
                    case measure => simp [intOf]
                  | true =>
                    have HV := hide (hB' rfl rfl)
                    have CB := hide (fun w => unhide CB2 w rfl)
                    clear hN' hB' CB2
                    go_wp2_with fail
                    refine (unhide CA _).mono ?_
                    rintro e1 w5 ⟨rfl, rfl⟩
                    go_wp2_with fail
                    refine (unhide CL _).mono ?_
                    rintro e1 w6 ⟨rfl, rfl⟩
                    go_wp2_with fail
                    refine (unhide CD _).mono ?_
                    rintro e1 w6 ⟨rfl, rfl⟩
                    go_wp2_with fail
                    refine (unhide CO _).mono ?_
                    rintro e1 w7 ⟨rfl, hb_w7⟩
                    go_wp2_with fail
                    refine (unhide CN2 _).mono ?_
                    rintro e1 w8 ⟨rfl, hb_w8⟩
                    go_wp2_with fail
                    refine (unhide CB _).mono ?_
                    rintro e1 w9 ⟨rfl, hb_w9⟩
                    have hbz := hbw
                    have hbz := tr2 hbz hb_w7
                    have hbz := tr2 hbz hb_w8
                    have hbz := tr2 hbz hb_w9
                    have hz : w.heap.size < w9.heap.size := by have := hbz.size; simp at this; omega
                    obtain ⟨hc, hf⟩ := bcell hbz
                    go_wp2
                    exact bodyPost_ret (v := gotR (ub c2) ((i : Int) + ((j : Int) + 1))) (by simp [results, Tryz.results59, go_sem, gotR, hc, str_ub]) rfl ⟨by rw [unhide HR, unhide HV]; rfl, ((bel_of hbz).setCell (by simp) _).setCell (by simp) _⟩
        · have h59' : b = 59 := Classical.not_not.1 h59
          subst h59'
          have c10 : c1 = 0 := Classical.not_not.1 (fun h => hA ⟨rfl, h⟩)
          subst c10
          clear hA h59
          cases v with
          | false =>
            rw [Bool.false_and] at hN' hB'
            clear CL CD
            cases ob with
            | false =>
              have HV := hide (hN' (.inl rfl))
              clear hN' hB' CB2 CN2
              go_wp2_with fail
              refine (unhide CN1 _).mono ?_
              rintro e1 w2 ⟨rfl, hb_w2⟩
              go_wp2_with fail
              refine (unhide CA _).mono ?_
              rintro e1 w5 ⟨rfl, rfl⟩
              go_wp2_with fail
              refine (unhide CO _).mono ?_
              rintro e1 w7 ⟨rfl, hb_w7⟩
              have hbz := hbw
              have hbz := tr2 hbz hb_w2
              have hbz := tr2 hbz hb_w7
              go_wp2
              go_roundw
              case rel => exact ⟨j, by omega, by first | rfl | (congr 1; omega) | go_num, by rw [unhide HR, unhide HV], hbz⟩
              case measure => simp [intOf]
            | true =>
              have HV := hide (hB' rfl rfl)
              have CB := hide (fun w => unhide CB2 w rfl)
              clear hN' hB' CB2
              go_wp2_with fail
              refine (unhide CN1 _).mono ?_
              rintro e1 w2 ⟨rfl, hb_w2⟩
              go_wp2_with fail
              refine (unhide CA _).mono ?_
              rintro e1 w5 ⟨rfl, rfl⟩
              go_wp2_with fail
              refine (unhide CO _).mono ?_
              rintro e1 w7 ⟨rfl, hb_w7⟩
              go_wp2_with fail
              refine (unhide CN2 _).mono ?_
              rintro e1 w8 ⟨rfl, hb_w8⟩
              go_wp2_with fail
              refine (unhide CB _).mono ?_
              rintro e1 w9 ⟨rfl, hb_w9⟩
              have hbz := hbw
              have hbz := tr2 hbz hb_w2
              have hbz := tr2 hbz hb_w7
              have hbz := tr2 hbz hb_w8
              have hbz := tr2 hbz hb_w9
              have hz : w.heap.size < w9.heap.size := by have := hbz.size; simp at this; omega
              obtain ⟨hc, hf⟩ := bcell hbz
              go_wp2
              exact bodyPost_ret (v := gotR (ub c2) ((i : Int) + ((j : Int) + 1))) (by simp [results, Tryz.results59, go_sem, gotR, hc, str_ub]) rfl ⟨by rw [unhide HR, unhide HV]; rfl, ((bel_of hbz).setCell (by simp) _).setCell (by simp) _⟩
          | true =>
            rw [Bool.true_and] at hN' hB'
            by_cases h61 : ab = 61
            · subst h61
              rw [decide_eq_true rfl, Bool.true_or] at hN' hB'
              clear CL CD
              cases ob with
              | false =>
                have HV := hide (hN' (.inl rfl))
                clear hN' hB' CB2 CN2
                go_wp2_with fail
                refine (unhide CN1 _).mono ?_
                rintro e1 w2 ⟨rfl, hb_w2⟩
                go_wp2_with fail
                refine (unhide CA _).mono ?_
                rintro e1 w5 ⟨rfl, rfl⟩
                go_wp2_with fail
                refine (unhide CO _).mono ?_
                rintro e1 w7 ⟨rfl, hb_w7⟩
                have hbz := hbw
                have hbz := tr2 hbz hb_w2
                have hbz := tr2 hbz hb_w7
                go_wp2
                go_roundw
                case rel => exact ⟨j, by omega, by first | rfl | (congr 1; omega) | go_num, by rw [unhide HR, unhide HV], hbz⟩
                case measure => simp [intOf]
              | true =>
                have HV := hide (hN' (.inr rfl))
                clear hN' hB' CB2 CN2
                go_wp2_with fail
                refine (unhide CN1 _).mono ?_
                rintro e1 w2 ⟨rfl, hb_w2⟩
                go_wp2_with fail
                refine (unhide CA _).mono ?_
                rintro e1 w5 ⟨rfl, rfl⟩
                go_wp2_with fail
                refine (unhide CO _).mono ?_
                rintro e1 w7 ⟨rfl, hb_w7⟩
                have hbz := hbw
                have hbz := tr2 hbz hb_w2
                have hbz := tr2 hbz hb_w7
                go_wp2
                go_roundw
                case rel => exact ⟨j, by omega, by first | rfl | (congr 1; omega) | go_num, by rw [unhide HR, unhide HV], hbz⟩
                case measure => simp [intOf]
            · have n61 : ((ab : Int) == 61) = false := bneI (by omega)
              rw [decide_eq_false h61, Bool.false_or] at hN' hB'
              clear h61
              cases lb with
              | true =>
                rw [Bool.true_or] at hN' hB'
                clear CD
                cases ob with
                | false =>
                  have HV := hide (hN' (.inl rfl))
                  clear hN' hB' CB2 CN2
                  go_wp2_with fail
                  refine (unhide CN1 _).mono ?_
                  rintro e1 w2 ⟨rfl, hb_w2⟩
                  go_wp2_with fail
                  refine (unhide CA _).mono ?_
                  rintro e1 w5 ⟨rfl, rfl⟩
                  go_wp2_with fail
                  refine (unhide CL _).mono ?_
                  rintro e1 w6 ⟨rfl, rfl⟩
                  go_wp2_with fail
                  refine (unhide CO _).mono ?_
                  rintro e1 w7 ⟨rfl, hb_w7⟩
                  have hbz := hbw
                  have hbz := tr2 hbz hb_w2
                  have hbz := tr2 hbz hb_w7
                  go_wp2
                  go_roundw
                  case rel => exact ⟨j, by omega, by first | rfl | (congr 1; omega) | go_num, by rw [unhide HR, unhide HV], hbz⟩
                  case measure => simp [intOf]
                | true =>
                  have HV := hide (hN' (.inr rfl))
                  clear hN' hB' CB2 CN2
                  go_wp2_with fail
                  refine (unhide CN1 _).mono ?_
                  rintro e1 w2 ⟨rfl, hb_w2⟩
                  go_wp2_with fail
                  refine (unhide CA _).mono ?_
                  rintro e1 w5 ⟨rfl, rfl⟩
                  go_wp2_with fail
                  refine (unhide CL _).mono ?_
                  rintro e1 w6 ⟨rfl, rfl⟩
                  go_wp2_with fail
                  refine (unhide CO _).mono ?_
                  rintro e1 w7 ⟨rfl, hb_w7⟩
                  have hbz := hbw
                  have hbz := tr2 hbz hb_w2
                  have hbz := tr2 hbz hb_w7
                  go_wp2
                  go_roundw
                  case rel => exact ⟨j, by omega, by first | rfl | (congr 1; omega) | go_num, by rw [unhide HR, unhide HV], hbz⟩
                  case measure => simp [intOf]
              | false =>
                rw [Bool.false_or] at hN' hB'
                cases db with
                | true =>
                  cases ob with
                  | false =>
                    have HV := hide (hN' (.inl rfl))
                    clear hN' hB' CB2 CN2
                    go_wp2_with fail
                    refine (unhide CN1 _).mono ?_
                    rintro e1 w2 ⟨rfl, hb_w2⟩
                    go_wp2_with fail
                    refine (unhide CA _).mono ?_
                    rintro e1 w5 ⟨rfl, rfl⟩
                    go_wp2_with fail
                    refine (unhide CL _).mono ?_
                    rintro e1 w6 ⟨rfl, rfl⟩
                    go_wp2_with fail
                    refine (unhide CD _).mono ?_
                    rintro e1 w6 ⟨rfl, rfl⟩
                    go_wp2_with fail
                    refine (unhide CO _).mono ?_
                    rintro e1 w7 ⟨rfl, hb_w7⟩
                    have hbz := hbw
                    have hbz := tr2 hbz hb_w2
                    have hbz := tr2 hbz hb_w7
                    go_wp2
                    go_roundw
                    case rel => exact ⟨j, by omega, by first | rfl | (congr 1; omega) | go_num, by rw [unhide HR, unhide HV], hbz⟩
                    case measure => simp [intOf]
                  | true =>
                    have HV := hide (hN' (.inr rfl))
                    clear hN' hB' CB2 CN2
                    go_wp2_with fail
                    refine (unhide CN1 _).mono ?_
                    rintro e1 w2 ⟨rfl, hb_w2⟩
                    go_wp2_with fail
                    refine (unhide CA _).mono ?_
                    rintro e1 w5 ⟨rfl, rfl⟩
                    go_wp2_with fail
                    refine (unhide CL _).mono ?_
                    rintro e1 w6 ⟨rfl, rfl⟩
                    go_wp2_with fail
                    refine (unhide CD _).mono ?_
                    rintro e1 w6 ⟨rfl, rfl⟩
                    go_wp2_with fail
                    refine (unhide CO _).mono ?_
                    rintro e1 w7 ⟨rfl, hb_w7⟩
                    have hbz := hbw
                    have hbz := tr2 hbz hb_w2
                    have hbz := tr2 hbz hb_w7
                    go_wp2
                    go_roundw
                    case rel => exact ⟨j, by omega, by first | rfl | (congr 1; omega) | go_num, by rw [unhide HR, unhide HV], hbz⟩
                    case measure => simp [intOf]
                | false =>
                  cases ob with
                  | false =>
                    have HV := hide (hN' (.inl rfl))
                    clear hN' hB' CB2 CN2
                    go_wp2_with fail
                    refine (unhide CN1 _).mono ?_
                    rintro e1 w2 ⟨rfl, hb_w2⟩
                    go_wp2_with fail
                    refine (unhide CA _).mono ?_
                    rintro e1 w5 ⟨rfl, rfl⟩
                    go_wp2_with fail
                    refine (unhide CL _).mono ?_
                    rintro e1 w6 ⟨rfl, rfl⟩
                    go_wp2_with fail
                    refine (unhide CD _).mono ?_
                    rintro e1 w6 ⟨rfl, rfl⟩
                    go_wp2_with fail
                    refine (unhide CO _).mono ?_
                    rintro e1 w7 ⟨rfl, hb_w7⟩
                    have hbz := hbw
                    have hbz := tr2 hbz hb_w2
                    have hbz := tr2 hbz hb_w7
                    go_wp2
                    go_roundw
                    case rel => exact ⟨j, by omega, by first | rfl | (congr 1; omega) | go_num, by rw [unhide HR, unhide HV], hbz⟩
                    case measure => simp [intOf]
                  | true =>
                    have HV := hide (hB' rfl rfl)
                    have CB := hide (fun w => unhide CB2 w rfl)
                    clear hN' hB' CB2
                    go_wp2_with fail
                    refine (unhide CN1 _).mono ?_
                    rintro e1 w2 ⟨rfl, hb_w2⟩
                    go_wp2_with fail
                    refine (unhide CA _).mono ?_
                    rintro e1 w5 ⟨rfl, rfl⟩
                    go_wp2_with fail
                    refine (unhide CL _).mono ?_
                    rintro e1 w6 ⟨rfl, rfl⟩
                    go_wp2_with fail
                    refine (unhide CD _).mono ?_
                    rintro e1 w6 ⟨rfl, rfl⟩
                    go_wp2_with fail
                    refine (unhide CO _).mono ?_
                    rintro e1 w7 ⟨rfl, hb_w7⟩
                    go_wp2_with fail
                    refine (unhide CN2 _).mono ?_
                    rintro e1 w8 ⟨rfl, hb_w8⟩
                    go_wp2_with fail
                    refine (unhide CB _).mono ?_
                    rintro e1 w9 ⟨rfl, hb_w9⟩
                    have hbz := hbw
                    have hbz := tr2 hbz hb_w2
                    have hbz := tr2 hbz hb_w7
                    have hbz := tr2 hbz hb_w8
                    have hbz := tr2 hbz hb_w9
                    have hz : w.heap.size < w9.heap.size := by have := hbz.size; simp at this; omega
                    obtain ⟨hc, hf⟩ := bcell hbz
                    go_wp2
                    exact bodyPost_ret (v := gotR (ub c2) ((i : Int) + ((j : Int) + 1))) (by simp [results, Tryz.results59, go_sem, gotR, hc, str_ub]) rfl ⟨by rw [unhide HR, unhide HV]; rfl, ((bel_of hbz).setCell (by simp) _).setCell (by simp) _⟩
theorem named_any (s : ByteArray) (i : Nat) (v : Bool) (w : World) (hs : s.size ≤ 100000) (hi : i ≤ s.size) :
    Calls Tryz.prog 59 #[.string s, .int .i64 (i : Int), .bool v] w fun e w' => e = .returned (refV i (refL (s.data.toList.drop i) v)) ∧ Below w.heap.size w w' := named_is s i v _ rfl w hs hi
end Go.Proofs.YtakjlolmmoladaaGreatDoor

/-
  What 'rectoref02.low' does.
-/
namespace Go.Proofs.YtakjlolmmoladaaGreatDoor
open Go.RowKit
set_option linter.unusedVariables false

def lowI (l : List UInt8) (i : Nat) : Int := if tl l i = true then lo l i else -1
theorem lowI_yes {l : List UInt8} {i : Nat} (h : tl l i = true) : lowI l i = lo l i := if_pos h
theorem lowI_no {l : List UInt8} {i : Nat} (h : ¬ tl l i = true) : lowI l i = -1 := if_neg h
theorem lo_bd {l : List UInt8} {i : Nat} (h : tl l i = true) : 0 ≤ lo l i ∧ lo l i ≤ 63 := by
  have := (tl_iff _ _).1 h
  unfold lo; omega

theorem low_any (s : ByteArray) (k : Nat) (w : World) (hs : s.size ≤ 9223372036854775807) (hk : k ≤ 9223372036854775807) :
    Calls Tryz.prog 77 #[.string s, .int .i64 (k : Int)] w fun e w' => e = .returned (.int .i64 (lowI s.data.toList k)) ∧ w' = w := by
  have hl := data_len s
  by_cases h0 : s.size ≤ k
  · rw [lowI_no (by intro h; have := (tl_iff _ _).1 h; omega)]
    have hi : (s.size : Int) ≤ (k : Int) := by omega
    go_enter Tryz.func77, Tryz.ntmps77
    go_wp2
    go_ret
    exact ⟨rfl, rfl⟩
  have hlt : k < s.size := by omega
  have hi : (k : Int) < (s.size : Int) := by omega
  have hd : decide ((s.size : Int) ≤ (k : Int)) = false := by simp; omega
  have e := dgt_at s k hlt
  have hb := dgt_lt s.data.toList k
  have htl := tl_iff s.data.toList k
  rw [hl] at htl
  have hlo : lo s.data.toList k = (dgt s.data.toList k : Int) - 128 := rfl
  generalize dgt s.data.toList k = b at *
  clear hl h0
  by_cases h1 : b < 128
  · rw [lowI_no (by rw [htl]; omega)]
    clear htl hlo
    have h1i : (b : Int) < 128 := by omega
    go_enter Tryz.func77, Tryz.ntmps77
    go_wp2
    go_ret
    exact ⟨rfl, rfl⟩
  have h1i : (128 : Int) ≤ (b : Int) := by omega
  by_cases h2 : 191 < b
  · rw [lowI_no (by rw [htl]; omega)]
    clear htl hlo h1
    have h2i : (191 : Int) < (b : Int) := by omega
    go_enter Tryz.func77, Tryz.ntmps77
    go_wp2
    go_ret
    exact ⟨rfl, rfl⟩
  · rw [lowI_yes (htl.2 (by omega)), hlo]
    clear htl hlo h1
    have h2i : (b : Int) ≤ 191 := by omega
    clear h2
    go_enter Tryz.func77, Tryz.ntmps77
    go_wp2
    go_ret
    exact ⟨rfl, rfl⟩

def LowIs (s : ByteArray) (k : Int) (x : Int) : Prop := ∀ w, Calls Tryz.prog 77 #[.string s, .int .i64 k] w fun e w' => e = .returned (.int .i64 x) ∧ w' = w
def RIsIs (c : Int) (t : Bool) : Prop := ∀ w, Calls Tryz.prog 78 #[.int .i64 c] w fun e w' => e = .returned (.bool t) ∧ w' = w
def RBytesIs (c : Int) (x : ByteArray) : Prop := ∀ w, Calls Tryz.prog 57 #[.int .i64 c] w fun e w' => e = .returned (.string x) ∧ Below w.heap.size w w'
def got (c n : Int) (b : Bool) : Value := .agg #[.int .i64 c, .int .i64 n, .bool b]
end Go.Proofs.YtakjlolmmoladaaGreatDoor

/-
  What 'rectoref02.At' does where the bytes tell a number of one bytes.
-/
namespace Go.Proofs.YtakjlolmmoladaaGreatDoor
open Go.RowKit
set_option linter.unusedVariables false

set_option maxHeartbeats 1000000 in
set_option maxRecDepth 100000 in
theorem at_1_none (s : ByteArray) (i b : Nat) (x y z : Int) (w : World) (hs : s.size ≤ 9223372036854775807) (hi2 : i ≤ 9223372036854775000) (hi : i < s.size) (e0 : (s[i]).toNat = b) (u0 : b < 128)
    (L1 : LowIs s ((i : Int) + 1) x) (L2 : LowIs s ((i : Int) + 2) y) (L3 : LowIs s ((i : Int) + 3) z)  (CI : RIsIs ((b : Int)) false) :
    Calls Tryz.prog 56 #[.string s, .int .i64 (i : Int)] w fun e w' => e = .returned (got 65533 1 false) ∧ Below w.heap.size w w' := by
  have z0 : (i : Int) < (s.size : Int) := by omega
  go_enter Tryz.func56, Tryz.ntmps56
  go_wp2_with fail
  refine (L1 _).mono ?_
  rintro e w1 ⟨rfl, rfl⟩
  go_wp2_with fail
  refine (L2 _).mono ?_
  rintro e w1 ⟨rfl, rfl⟩
  go_wp2_with fail
  refine (L3 _).mono ?_
  rintro e w1 ⟨rfl, rfl⟩
  go_wp2_with fail
  refine (CI _).mono ?_
  rintro e w1 ⟨rfl, rfl⟩
  go_wp2
  exact bodyPost_ret (v := .agg #[.int .i64 65533, .int .i64 1, .bool false]) (by simp [results, Tryz.results56, go_sem]) rfl ⟨rfl, (Below.refl _ _).alloc (Nat.le_refl _) _⟩

set_option maxHeartbeats 1000000 in
set_option maxRecDepth 100000 in
theorem at_1_short (s : ByteArray) (i b : Nat) (x y z : Int) (w : World) (hs : s.size ≤ 9223372036854775807) (hi2 : i ≤ 9223372036854775000) (hi : i < s.size) (e0 : (s[i]).toNat = b) (u0 : b < 128)
    (L1 : LowIs s ((i : Int) + 1) x) (L2 : LowIs s ((i : Int) + 2) y) (L3 : LowIs s ((i : Int) + 3) z)  (CI : RIsIs ((b : Int)) true) (q : ByteArray) (CB : RBytesIs ((b : Int)) q) (hq : q.size ≤ 4) (hx : (s.size : Int) - (i : Int) < (q.size : Int)) :
    Calls Tryz.prog 56 #[.string s, .int .i64 (i : Int)] w fun e w' => e = .returned (got 65533 1 false) ∧ Below w.heap.size w w' := by
  have z0 : (i : Int) < (s.size : Int) := by omega
  go_enter Tryz.func56, Tryz.ntmps56
  go_wp2_with fail
  refine (L1 _).mono ?_
  rintro e w1 ⟨rfl, rfl⟩
  go_wp2_with fail
  refine (L2 _).mono ?_
  rintro e w1 ⟨rfl, rfl⟩
  go_wp2_with fail
  refine (L3 _).mono ?_
  rintro e w1 ⟨rfl, rfl⟩
  go_wp2_with fail
  refine (CI _).mono ?_
  rintro e w1 ⟨rfl, rfl⟩
  go_wp2_with fail
  refine (CB _).mono ?_
  rintro e w1 ⟨rfl, hb1⟩
  have hz : w.heap.size < w1.heap.size := by have := hb1.size; simp at this; omega
  obtain ⟨hc, hf⟩ := bcell hb1
  go_wp2
  exact bodyPost_ret (v := .agg #[.int .i64 65533, .int .i64 1, .bool false]) (by simp [results, Tryz.results56, go_sem, hc]) rfl
    ⟨rfl, (((bel_of hb1).setCell (by simp) _).setCell (by simp) _).setCell (by simp) _⟩

set_option maxHeartbeats 1000000 in
set_option maxRecDepth 100000 in
theorem at_1_other (s : ByteArray) (i b : Nat) (x y z : Int) (w : World) (hs : s.size ≤ 9223372036854775807) (hi2 : i ≤ 9223372036854775000) (hi : i < s.size) (e0 : (s[i]).toNat = b) (u0 : b < 128)
    (L1 : LowIs s ((i : Int) + 1) x) (L2 : LowIs s ((i : Int) + 2) y) (L3 : LowIs s ((i : Int) + 3) z)  (CI : RIsIs ((b : Int)) true) (q : ByteArray) (CB : RBytesIs ((b : Int)) q) (hq : q.size ≤ 4) (hx : (q.size : Int) ≤ (s.size : Int) - (i : Int)) (hx2 : i + q.size ≤ s.size) (hne : ((s.extract i (i + q.size)).toList == q.toList) = false) :
    Calls Tryz.prog 56 #[.string s, .int .i64 (i : Int)] w fun e w' => e = .returned (got 65533 1 false) ∧ Below w.heap.size w w' := by
  have z0 : (i : Int) < (s.size : Int) := by omega
  go_enter Tryz.func56, Tryz.ntmps56
  go_wp2_with fail
  refine (L1 _).mono ?_
  rintro e w1 ⟨rfl, rfl⟩
  go_wp2_with fail
  refine (L2 _).mono ?_
  rintro e w1 ⟨rfl, rfl⟩
  go_wp2_with fail
  refine (L3 _).mono ?_
  rintro e w1 ⟨rfl, rfl⟩
  go_wp2_with fail
  refine (CI _).mono ?_
  rintro e w1 ⟨rfl, rfl⟩
  go_wp2_with fail
  refine (CB _).mono ?_
  rintro e w1 ⟨rfl, hb1⟩
  have hz : w.heap.size < w1.heap.size := by have := hb1.size; simp at this; omega
  obtain ⟨hc, hf⟩ := bcell hb1
  go_wp2
  exact bodyPost_ret (v := .agg #[.int .i64 65533, .int .i64 1, .bool false]) (by simp [results, Tryz.results56, go_sem, hc]) rfl
    ⟨rfl, (((bel_of hb1).setCell (by simp) _).setCell (by simp) _).setCell (by simp) _⟩

set_option maxHeartbeats 1000000 in
set_option maxRecDepth 100000 in
theorem at_1_ok (s : ByteArray) (i b : Nat) (x y z : Int) (w : World) (hs : s.size ≤ 9223372036854775807) (hi2 : i ≤ 9223372036854775000) (hi : i < s.size) (e0 : (s[i]).toNat = b) (u0 : b < 128)
    (L1 : LowIs s ((i : Int) + 1) x) (L2 : LowIs s ((i : Int) + 2) y) (L3 : LowIs s ((i : Int) + 3) z)  (CI : RIsIs ((b : Int)) true) (q : ByteArray) (CB : RBytesIs ((b : Int)) q) (hq : q.size ≤ 4) (hx : (q.size : Int) ≤ (s.size : Int) - (i : Int)) (hx2 : i + q.size ≤ s.size) (hne : ((s.extract i (i + q.size)).toList == q.toList) = true) :
    Calls Tryz.prog 56 #[.string s, .int .i64 (i : Int)] w fun e w' => e = .returned (got ((b : Int)) (q.size : Int) true) ∧ Below w.heap.size w w' := by
  have z0 : (i : Int) < (s.size : Int) := by omega
  go_enter Tryz.func56, Tryz.ntmps56
  go_wp2_with fail
  refine (L1 _).mono ?_
  rintro e w1 ⟨rfl, rfl⟩
  go_wp2_with fail
  refine (L2 _).mono ?_
  rintro e w1 ⟨rfl, rfl⟩
  go_wp2_with fail
  refine (L3 _).mono ?_
  rintro e w1 ⟨rfl, rfl⟩
  go_wp2_with fail
  refine (CI _).mono ?_
  rintro e w1 ⟨rfl, rfl⟩
  go_wp2_with fail
  refine (CB _).mono ?_
  rintro e w1 ⟨rfl, hb1⟩
  have hz : w.heap.size < w1.heap.size := by have := hb1.size; simp at this; omega
  obtain ⟨hc, hf⟩ := bcell hb1
  go_wp2
  exact bodyPost_ret (v := .agg #[.int .i64 ((b : Int)), .int .i64 (q.size : Int), .bool true]) (by simp [results, Tryz.results56, go_sem, hc]) rfl
    ⟨rfl, (((bel_of hb1).setCell (by simp) _).setCell (by simp) _).setCell (by simp) _⟩
end Go.Proofs.YtakjlolmmoladaaGreatDoor

/-
  What 'rectoref02.At' does where the bytes tell a number of two bytes.
-/
namespace Go.Proofs.YtakjlolmmoladaaGreatDoor
open Go.RowKit
set_option linter.unusedVariables false

set_option maxHeartbeats 1000000 in
set_option maxRecDepth 100000 in
theorem at_2_none (s : ByteArray) (i b : Nat) (x y z : Int) (w : World) (hs : s.size ≤ 9223372036854775807) (hi2 : i ≤ 9223372036854775000) (hi : i < s.size) (e0 : (s[i]).toNat = b) (l0 : 192 ≤ b) (u0 : b < 224)
    (L1 : LowIs s ((i : Int) + 1) x) (L2 : LowIs s ((i : Int) + 2) y) (L3 : LowIs s ((i : Int) + 3) z) (gx : 0 ≤ x) (fx : x ≤ 63) (CI : RIsIs (64 * ((b : Int) - 192) + x) false) :
    Calls Tryz.prog 56 #[.string s, .int .i64 (i : Int)] w fun e w' => e = .returned (got 65533 1 false) ∧ Below w.heap.size w w' := by
  have z0 : (i : Int) < (s.size : Int) := by omega
  go_enter Tryz.func56, Tryz.ntmps56
  go_wp2_with fail
  refine (L1 _).mono ?_
  rintro e w1 ⟨rfl, rfl⟩
  go_wp2_with fail
  refine (L2 _).mono ?_
  rintro e w1 ⟨rfl, rfl⟩
  go_wp2_with fail
  refine (L3 _).mono ?_
  rintro e w1 ⟨rfl, rfl⟩
  go_wp2_with fail
  refine (CI _).mono ?_
  rintro e w1 ⟨rfl, rfl⟩
  go_wp2
  exact bodyPost_ret (v := .agg #[.int .i64 65533, .int .i64 1, .bool false]) (by simp [results, Tryz.results56, go_sem]) rfl ⟨rfl, (Below.refl _ _).alloc (Nat.le_refl _) _⟩

set_option maxHeartbeats 1000000 in
set_option maxRecDepth 100000 in
theorem at_2_short (s : ByteArray) (i b : Nat) (x y z : Int) (w : World) (hs : s.size ≤ 9223372036854775807) (hi2 : i ≤ 9223372036854775000) (hi : i < s.size) (e0 : (s[i]).toNat = b) (l0 : 192 ≤ b) (u0 : b < 224)
    (L1 : LowIs s ((i : Int) + 1) x) (L2 : LowIs s ((i : Int) + 2) y) (L3 : LowIs s ((i : Int) + 3) z) (gx : 0 ≤ x) (fx : x ≤ 63) (CI : RIsIs (64 * ((b : Int) - 192) + x) true) (q : ByteArray) (CB : RBytesIs (64 * ((b : Int) - 192) + x) q) (hq : q.size ≤ 4) (hx : (s.size : Int) - (i : Int) < (q.size : Int)) :
    Calls Tryz.prog 56 #[.string s, .int .i64 (i : Int)] w fun e w' => e = .returned (got 65533 1 false) ∧ Below w.heap.size w w' := by
  have z0 : (i : Int) < (s.size : Int) := by omega
  go_enter Tryz.func56, Tryz.ntmps56
  go_wp2_with fail
  refine (L1 _).mono ?_
  rintro e w1 ⟨rfl, rfl⟩
  go_wp2_with fail
  refine (L2 _).mono ?_
  rintro e w1 ⟨rfl, rfl⟩
  go_wp2_with fail
  refine (L3 _).mono ?_
  rintro e w1 ⟨rfl, rfl⟩
  go_wp2_with fail
  refine (CI _).mono ?_
  rintro e w1 ⟨rfl, rfl⟩
  go_wp2_with fail
  refine (CB _).mono ?_
  rintro e w1 ⟨rfl, hb1⟩
  have hz : w.heap.size < w1.heap.size := by have := hb1.size; simp at this; omega
  obtain ⟨hc, hf⟩ := bcell hb1
  go_wp2
  exact bodyPost_ret (v := .agg #[.int .i64 65533, .int .i64 1, .bool false]) (by simp [results, Tryz.results56, go_sem, hc]) rfl
    ⟨rfl, (((bel_of hb1).setCell (by simp) _).setCell (by simp) _).setCell (by simp) _⟩

set_option maxHeartbeats 1000000 in
set_option maxRecDepth 100000 in
theorem at_2_other (s : ByteArray) (i b : Nat) (x y z : Int) (w : World) (hs : s.size ≤ 9223372036854775807) (hi2 : i ≤ 9223372036854775000) (hi : i < s.size) (e0 : (s[i]).toNat = b) (l0 : 192 ≤ b) (u0 : b < 224)
    (L1 : LowIs s ((i : Int) + 1) x) (L2 : LowIs s ((i : Int) + 2) y) (L3 : LowIs s ((i : Int) + 3) z) (gx : 0 ≤ x) (fx : x ≤ 63) (CI : RIsIs (64 * ((b : Int) - 192) + x) true) (q : ByteArray) (CB : RBytesIs (64 * ((b : Int) - 192) + x) q) (hq : q.size ≤ 4) (hx : (q.size : Int) ≤ (s.size : Int) - (i : Int)) (hx2 : i + q.size ≤ s.size) (hne : ((s.extract i (i + q.size)).toList == q.toList) = false) :
    Calls Tryz.prog 56 #[.string s, .int .i64 (i : Int)] w fun e w' => e = .returned (got 65533 1 false) ∧ Below w.heap.size w w' := by
  have z0 : (i : Int) < (s.size : Int) := by omega
  go_enter Tryz.func56, Tryz.ntmps56
  go_wp2_with fail
  refine (L1 _).mono ?_
  rintro e w1 ⟨rfl, rfl⟩
  go_wp2_with fail
  refine (L2 _).mono ?_
  rintro e w1 ⟨rfl, rfl⟩
  go_wp2_with fail
  refine (L3 _).mono ?_
  rintro e w1 ⟨rfl, rfl⟩
  go_wp2_with fail
  refine (CI _).mono ?_
  rintro e w1 ⟨rfl, rfl⟩
  go_wp2_with fail
  refine (CB _).mono ?_
  rintro e w1 ⟨rfl, hb1⟩
  have hz : w.heap.size < w1.heap.size := by have := hb1.size; simp at this; omega
  obtain ⟨hc, hf⟩ := bcell hb1
  go_wp2
  exact bodyPost_ret (v := .agg #[.int .i64 65533, .int .i64 1, .bool false]) (by simp [results, Tryz.results56, go_sem, hc]) rfl
    ⟨rfl, (((bel_of hb1).setCell (by simp) _).setCell (by simp) _).setCell (by simp) _⟩

set_option maxHeartbeats 1000000 in
set_option maxRecDepth 100000 in
theorem at_2_ok (s : ByteArray) (i b : Nat) (x y z : Int) (w : World) (hs : s.size ≤ 9223372036854775807) (hi2 : i ≤ 9223372036854775000) (hi : i < s.size) (e0 : (s[i]).toNat = b) (l0 : 192 ≤ b) (u0 : b < 224)
    (L1 : LowIs s ((i : Int) + 1) x) (L2 : LowIs s ((i : Int) + 2) y) (L3 : LowIs s ((i : Int) + 3) z) (gx : 0 ≤ x) (fx : x ≤ 63) (CI : RIsIs (64 * ((b : Int) - 192) + x) true) (q : ByteArray) (CB : RBytesIs (64 * ((b : Int) - 192) + x) q) (hq : q.size ≤ 4) (hx : (q.size : Int) ≤ (s.size : Int) - (i : Int)) (hx2 : i + q.size ≤ s.size) (hne : ((s.extract i (i + q.size)).toList == q.toList) = true) :
    Calls Tryz.prog 56 #[.string s, .int .i64 (i : Int)] w fun e w' => e = .returned (got (64 * ((b : Int) - 192) + x) (q.size : Int) true) ∧ Below w.heap.size w w' := by
  have z0 : (i : Int) < (s.size : Int) := by omega
  go_enter Tryz.func56, Tryz.ntmps56
  go_wp2_with fail
  refine (L1 _).mono ?_
  rintro e w1 ⟨rfl, rfl⟩
  go_wp2_with fail
  refine (L2 _).mono ?_
  rintro e w1 ⟨rfl, rfl⟩
  go_wp2_with fail
  refine (L3 _).mono ?_
  rintro e w1 ⟨rfl, rfl⟩
  go_wp2_with fail
  refine (CI _).mono ?_
  rintro e w1 ⟨rfl, rfl⟩
  go_wp2_with fail
  refine (CB _).mono ?_
  rintro e w1 ⟨rfl, hb1⟩
  have hz : w.heap.size < w1.heap.size := by have := hb1.size; simp at this; omega
  obtain ⟨hc, hf⟩ := bcell hb1
  go_wp2
  exact bodyPost_ret (v := .agg #[.int .i64 (64 * ((b : Int) - 192) + x), .int .i64 (q.size : Int), .bool true]) (by simp [results, Tryz.results56, go_sem, hc]) rfl
    ⟨rfl, (((bel_of hb1).setCell (by simp) _).setCell (by simp) _).setCell (by simp) _⟩
end Go.Proofs.YtakjlolmmoladaaGreatDoor

/-
  What 'rectoref02.At' does where the bytes tell a number of three bytes.
-/
namespace Go.Proofs.YtakjlolmmoladaaGreatDoor
open Go.RowKit
set_option linter.unusedVariables false

set_option maxHeartbeats 1000000 in
set_option maxRecDepth 100000 in
theorem at_3_none (s : ByteArray) (i b : Nat) (x y z : Int) (w : World) (hs : s.size ≤ 9223372036854775807) (hi2 : i ≤ 9223372036854775000) (hi : i < s.size) (e0 : (s[i]).toNat = b) (l0 : 224 ≤ b) (u0 : b < 240)
    (L1 : LowIs s ((i : Int) + 1) x) (L2 : LowIs s ((i : Int) + 2) y) (L3 : LowIs s ((i : Int) + 3) z) (gx : 0 ≤ x) (fx : x ≤ 63) (gy : 0 ≤ y) (fy : y ≤ 63) (CI : RIsIs (4096 * ((b : Int) - 224) + 64 * x + y) false) :
    Calls Tryz.prog 56 #[.string s, .int .i64 (i : Int)] w fun e w' => e = .returned (got 65533 1 false) ∧ Below w.heap.size w w' := by
  have z0 : (i : Int) < (s.size : Int) := by omega
  go_enter Tryz.func56, Tryz.ntmps56
  go_wp2_with fail
  refine (L1 _).mono ?_
  rintro e w1 ⟨rfl, rfl⟩
  go_wp2_with fail
  refine (L2 _).mono ?_
  rintro e w1 ⟨rfl, rfl⟩
  go_wp2_with fail
  refine (L3 _).mono ?_
  rintro e w1 ⟨rfl, rfl⟩
  go_wp2_with fail
  refine (CI _).mono ?_
  rintro e w1 ⟨rfl, rfl⟩
  go_wp2
  exact bodyPost_ret (v := .agg #[.int .i64 65533, .int .i64 1, .bool false]) (by simp [results, Tryz.results56, go_sem]) rfl ⟨rfl, (Below.refl _ _).alloc (Nat.le_refl _) _⟩

set_option maxHeartbeats 1000000 in
set_option maxRecDepth 100000 in
theorem at_3_short (s : ByteArray) (i b : Nat) (x y z : Int) (w : World) (hs : s.size ≤ 9223372036854775807) (hi2 : i ≤ 9223372036854775000) (hi : i < s.size) (e0 : (s[i]).toNat = b) (l0 : 224 ≤ b) (u0 : b < 240)
    (L1 : LowIs s ((i : Int) + 1) x) (L2 : LowIs s ((i : Int) + 2) y) (L3 : LowIs s ((i : Int) + 3) z) (gx : 0 ≤ x) (fx : x ≤ 63) (gy : 0 ≤ y) (fy : y ≤ 63) (CI : RIsIs (4096 * ((b : Int) - 224) + 64 * x + y) true) (q : ByteArray) (CB : RBytesIs (4096 * ((b : Int) - 224) + 64 * x + y) q) (hq : q.size ≤ 4) (hx : (s.size : Int) - (i : Int) < (q.size : Int)) :
    Calls Tryz.prog 56 #[.string s, .int .i64 (i : Int)] w fun e w' => e = .returned (got 65533 1 false) ∧ Below w.heap.size w w' := by
  have z0 : (i : Int) < (s.size : Int) := by omega
  go_enter Tryz.func56, Tryz.ntmps56
  go_wp2_with fail
  refine (L1 _).mono ?_
  rintro e w1 ⟨rfl, rfl⟩
  go_wp2_with fail
  refine (L2 _).mono ?_
  rintro e w1 ⟨rfl, rfl⟩
  go_wp2_with fail
  refine (L3 _).mono ?_
  rintro e w1 ⟨rfl, rfl⟩
  go_wp2_with fail
  refine (CI _).mono ?_
  rintro e w1 ⟨rfl, rfl⟩
  go_wp2_with fail
  refine (CB _).mono ?_
  rintro e w1 ⟨rfl, hb1⟩
  have hz : w.heap.size < w1.heap.size := by have := hb1.size; simp at this; omega
  obtain ⟨hc, hf⟩ := bcell hb1
  go_wp2
  exact bodyPost_ret (v := .agg #[.int .i64 65533, .int .i64 1, .bool false]) (by simp [results, Tryz.results56, go_sem, hc]) rfl
    ⟨rfl, (((bel_of hb1).setCell (by simp) _).setCell (by simp) _).setCell (by simp) _⟩

set_option maxHeartbeats 1000000 in
set_option maxRecDepth 100000 in
theorem at_3_other (s : ByteArray) (i b : Nat) (x y z : Int) (w : World) (hs : s.size ≤ 9223372036854775807) (hi2 : i ≤ 9223372036854775000) (hi : i < s.size) (e0 : (s[i]).toNat = b) (l0 : 224 ≤ b) (u0 : b < 240)
    (L1 : LowIs s ((i : Int) + 1) x) (L2 : LowIs s ((i : Int) + 2) y) (L3 : LowIs s ((i : Int) + 3) z) (gx : 0 ≤ x) (fx : x ≤ 63) (gy : 0 ≤ y) (fy : y ≤ 63) (CI : RIsIs (4096 * ((b : Int) - 224) + 64 * x + y) true) (q : ByteArray) (CB : RBytesIs (4096 * ((b : Int) - 224) + 64 * x + y) q) (hq : q.size ≤ 4) (hx : (q.size : Int) ≤ (s.size : Int) - (i : Int)) (hx2 : i + q.size ≤ s.size) (hne : ((s.extract i (i + q.size)).toList == q.toList) = false) :
    Calls Tryz.prog 56 #[.string s, .int .i64 (i : Int)] w fun e w' => e = .returned (got 65533 1 false) ∧ Below w.heap.size w w' := by
  have z0 : (i : Int) < (s.size : Int) := by omega
  go_enter Tryz.func56, Tryz.ntmps56
  go_wp2_with fail
  refine (L1 _).mono ?_
  rintro e w1 ⟨rfl, rfl⟩
  go_wp2_with fail
  refine (L2 _).mono ?_
  rintro e w1 ⟨rfl, rfl⟩
  go_wp2_with fail
  refine (L3 _).mono ?_
  rintro e w1 ⟨rfl, rfl⟩
  go_wp2_with fail
  refine (CI _).mono ?_
  rintro e w1 ⟨rfl, rfl⟩
  go_wp2_with fail
  refine (CB _).mono ?_
  rintro e w1 ⟨rfl, hb1⟩
  have hz : w.heap.size < w1.heap.size := by have := hb1.size; simp at this; omega
  obtain ⟨hc, hf⟩ := bcell hb1
  go_wp2
  exact bodyPost_ret (v := .agg #[.int .i64 65533, .int .i64 1, .bool false]) (by simp [results, Tryz.results56, go_sem, hc]) rfl
    ⟨rfl, (((bel_of hb1).setCell (by simp) _).setCell (by simp) _).setCell (by simp) _⟩

set_option maxHeartbeats 1000000 in
set_option maxRecDepth 100000 in
theorem at_3_ok (s : ByteArray) (i b : Nat) (x y z : Int) (w : World) (hs : s.size ≤ 9223372036854775807) (hi2 : i ≤ 9223372036854775000) (hi : i < s.size) (e0 : (s[i]).toNat = b) (l0 : 224 ≤ b) (u0 : b < 240)
    (L1 : LowIs s ((i : Int) + 1) x) (L2 : LowIs s ((i : Int) + 2) y) (L3 : LowIs s ((i : Int) + 3) z) (gx : 0 ≤ x) (fx : x ≤ 63) (gy : 0 ≤ y) (fy : y ≤ 63) (CI : RIsIs (4096 * ((b : Int) - 224) + 64 * x + y) true) (q : ByteArray) (CB : RBytesIs (4096 * ((b : Int) - 224) + 64 * x + y) q) (hq : q.size ≤ 4) (hx : (q.size : Int) ≤ (s.size : Int) - (i : Int)) (hx2 : i + q.size ≤ s.size) (hne : ((s.extract i (i + q.size)).toList == q.toList) = true) :
    Calls Tryz.prog 56 #[.string s, .int .i64 (i : Int)] w fun e w' => e = .returned (got (4096 * ((b : Int) - 224) + 64 * x + y) (q.size : Int) true) ∧ Below w.heap.size w w' := by
  have z0 : (i : Int) < (s.size : Int) := by omega
  go_enter Tryz.func56, Tryz.ntmps56
  go_wp2_with fail
  refine (L1 _).mono ?_
  rintro e w1 ⟨rfl, rfl⟩
  go_wp2_with fail
  refine (L2 _).mono ?_
  rintro e w1 ⟨rfl, rfl⟩
  go_wp2_with fail
  refine (L3 _).mono ?_
  rintro e w1 ⟨rfl, rfl⟩
  go_wp2_with fail
  refine (CI _).mono ?_
  rintro e w1 ⟨rfl, rfl⟩
  go_wp2_with fail
  refine (CB _).mono ?_
  rintro e w1 ⟨rfl, hb1⟩
  have hz : w.heap.size < w1.heap.size := by have := hb1.size; simp at this; omega
  obtain ⟨hc, hf⟩ := bcell hb1
  go_wp2
  exact bodyPost_ret (v := .agg #[.int .i64 (4096 * ((b : Int) - 224) + 64 * x + y), .int .i64 (q.size : Int), .bool true]) (by simp [results, Tryz.results56, go_sem, hc]) rfl
    ⟨rfl, (((bel_of hb1).setCell (by simp) _).setCell (by simp) _).setCell (by simp) _⟩
end Go.Proofs.YtakjlolmmoladaaGreatDoor

/-
  What 'rectoref02.At' does where the bytes tell a number of four bytes.
-/
namespace Go.Proofs.YtakjlolmmoladaaGreatDoor
open Go.RowKit
set_option linter.unusedVariables false

set_option maxHeartbeats 1000000 in
set_option maxRecDepth 100000 in
theorem at_4_none (s : ByteArray) (i b : Nat) (x y z : Int) (w : World) (hs : s.size ≤ 9223372036854775807) (hi2 : i ≤ 9223372036854775000) (hi : i < s.size) (e0 : (s[i]).toNat = b) (l0 : 240 ≤ b) (u0 : b < 248)
    (L1 : LowIs s ((i : Int) + 1) x) (L2 : LowIs s ((i : Int) + 2) y) (L3 : LowIs s ((i : Int) + 3) z) (gx : 0 ≤ x) (fx : x ≤ 63) (gy : 0 ≤ y) (fy : y ≤ 63) (gz : 0 ≤ z) (fz : z ≤ 63) (CI : RIsIs (262144 * ((b : Int) - 240) + 4096 * x + 64 * y + z) false) :
    Calls Tryz.prog 56 #[.string s, .int .i64 (i : Int)] w fun e w' => e = .returned (got 65533 1 false) ∧ Below w.heap.size w w' := by
  have z0 : (i : Int) < (s.size : Int) := by omega
  go_enter Tryz.func56, Tryz.ntmps56
  go_wp2_with fail
  refine (L1 _).mono ?_
  rintro e w1 ⟨rfl, rfl⟩
  go_wp2_with fail
  refine (L2 _).mono ?_
  rintro e w1 ⟨rfl, rfl⟩
  go_wp2_with fail
  refine (L3 _).mono ?_
  rintro e w1 ⟨rfl, rfl⟩
  go_wp2_with fail
  refine (CI _).mono ?_
  rintro e w1 ⟨rfl, rfl⟩
  go_wp2
  exact bodyPost_ret (v := .agg #[.int .i64 65533, .int .i64 1, .bool false]) (by simp [results, Tryz.results56, go_sem]) rfl ⟨rfl, (Below.refl _ _).alloc (Nat.le_refl _) _⟩

set_option maxHeartbeats 1000000 in
set_option maxRecDepth 100000 in
theorem at_4_short (s : ByteArray) (i b : Nat) (x y z : Int) (w : World) (hs : s.size ≤ 9223372036854775807) (hi2 : i ≤ 9223372036854775000) (hi : i < s.size) (e0 : (s[i]).toNat = b) (l0 : 240 ≤ b) (u0 : b < 248)
    (L1 : LowIs s ((i : Int) + 1) x) (L2 : LowIs s ((i : Int) + 2) y) (L3 : LowIs s ((i : Int) + 3) z) (gx : 0 ≤ x) (fx : x ≤ 63) (gy : 0 ≤ y) (fy : y ≤ 63) (gz : 0 ≤ z) (fz : z ≤ 63) (CI : RIsIs (262144 * ((b : Int) - 240) + 4096 * x + 64 * y + z) true) (q : ByteArray) (CB : RBytesIs (262144 * ((b : Int) - 240) + 4096 * x + 64 * y + z) q) (hq : q.size ≤ 4) (hx : (s.size : Int) - (i : Int) < (q.size : Int)) :
    Calls Tryz.prog 56 #[.string s, .int .i64 (i : Int)] w fun e w' => e = .returned (got 65533 1 false) ∧ Below w.heap.size w w' := by
  have z0 : (i : Int) < (s.size : Int) := by omega
  go_enter Tryz.func56, Tryz.ntmps56
  go_wp2_with fail
  refine (L1 _).mono ?_
  rintro e w1 ⟨rfl, rfl⟩
  go_wp2_with fail
  refine (L2 _).mono ?_
  rintro e w1 ⟨rfl, rfl⟩
  go_wp2_with fail
  refine (L3 _).mono ?_
  rintro e w1 ⟨rfl, rfl⟩
  go_wp2_with fail
  refine (CI _).mono ?_
  rintro e w1 ⟨rfl, rfl⟩
  go_wp2_with fail
  refine (CB _).mono ?_
  rintro e w1 ⟨rfl, hb1⟩
  have hz : w.heap.size < w1.heap.size := by have := hb1.size; simp at this; omega
  obtain ⟨hc, hf⟩ := bcell hb1
  go_wp2
  exact bodyPost_ret (v := .agg #[.int .i64 65533, .int .i64 1, .bool false]) (by simp [results, Tryz.results56, go_sem, hc]) rfl
    ⟨rfl, (((bel_of hb1).setCell (by simp) _).setCell (by simp) _).setCell (by simp) _⟩

set_option maxHeartbeats 1000000 in
set_option maxRecDepth 100000 in
theorem at_4_other (s : ByteArray) (i b : Nat) (x y z : Int) (w : World) (hs : s.size ≤ 9223372036854775807) (hi2 : i ≤ 9223372036854775000) (hi : i < s.size) (e0 : (s[i]).toNat = b) (l0 : 240 ≤ b) (u0 : b < 248)
    (L1 : LowIs s ((i : Int) + 1) x) (L2 : LowIs s ((i : Int) + 2) y) (L3 : LowIs s ((i : Int) + 3) z) (gx : 0 ≤ x) (fx : x ≤ 63) (gy : 0 ≤ y) (fy : y ≤ 63) (gz : 0 ≤ z) (fz : z ≤ 63) (CI : RIsIs (262144 * ((b : Int) - 240) + 4096 * x + 64 * y + z) true) (q : ByteArray) (CB : RBytesIs (262144 * ((b : Int) - 240) + 4096 * x + 64 * y + z) q) (hq : q.size ≤ 4) (hx : (q.size : Int) ≤ (s.size : Int) - (i : Int)) (hx2 : i + q.size ≤ s.size) (hne : ((s.extract i (i + q.size)).toList == q.toList) = false) :
    Calls Tryz.prog 56 #[.string s, .int .i64 (i : Int)] w fun e w' => e = .returned (got 65533 1 false) ∧ Below w.heap.size w w' := by
  have z0 : (i : Int) < (s.size : Int) := by omega
  go_enter Tryz.func56, Tryz.ntmps56
  go_wp2_with fail
  refine (L1 _).mono ?_
  rintro e w1 ⟨rfl, rfl⟩
  go_wp2_with fail
  refine (L2 _).mono ?_
  rintro e w1 ⟨rfl, rfl⟩
  go_wp2_with fail
  refine (L3 _).mono ?_
  rintro e w1 ⟨rfl, rfl⟩
  go_wp2_with fail
  refine (CI _).mono ?_
  rintro e w1 ⟨rfl, rfl⟩
  go_wp2_with fail
  refine (CB _).mono ?_
  rintro e w1 ⟨rfl, hb1⟩
  have hz : w.heap.size < w1.heap.size := by have := hb1.size; simp at this; omega
  obtain ⟨hc, hf⟩ := bcell hb1
  go_wp2
  exact bodyPost_ret (v := .agg #[.int .i64 65533, .int .i64 1, .bool false]) (by simp [results, Tryz.results56, go_sem, hc]) rfl
    ⟨rfl, (((bel_of hb1).setCell (by simp) _).setCell (by simp) _).setCell (by simp) _⟩

set_option maxHeartbeats 1000000 in
set_option maxRecDepth 100000 in
theorem at_4_ok (s : ByteArray) (i b : Nat) (x y z : Int) (w : World) (hs : s.size ≤ 9223372036854775807) (hi2 : i ≤ 9223372036854775000) (hi : i < s.size) (e0 : (s[i]).toNat = b) (l0 : 240 ≤ b) (u0 : b < 248)
    (L1 : LowIs s ((i : Int) + 1) x) (L2 : LowIs s ((i : Int) + 2) y) (L3 : LowIs s ((i : Int) + 3) z) (gx : 0 ≤ x) (fx : x ≤ 63) (gy : 0 ≤ y) (fy : y ≤ 63) (gz : 0 ≤ z) (fz : z ≤ 63) (CI : RIsIs (262144 * ((b : Int) - 240) + 4096 * x + 64 * y + z) true) (q : ByteArray) (CB : RBytesIs (262144 * ((b : Int) - 240) + 4096 * x + 64 * y + z) q) (hq : q.size ≤ 4) (hx : (q.size : Int) ≤ (s.size : Int) - (i : Int)) (hx2 : i + q.size ≤ s.size) (hne : ((s.extract i (i + q.size)).toList == q.toList) = true) :
    Calls Tryz.prog 56 #[.string s, .int .i64 (i : Int)] w fun e w' => e = .returned (got (262144 * ((b : Int) - 240) + 4096 * x + 64 * y + z) (q.size : Int) true) ∧ Below w.heap.size w w' := by
  have z0 : (i : Int) < (s.size : Int) := by omega
  go_enter Tryz.func56, Tryz.ntmps56
  go_wp2_with fail
  refine (L1 _).mono ?_
  rintro e w1 ⟨rfl, rfl⟩
  go_wp2_with fail
  refine (L2 _).mono ?_
  rintro e w1 ⟨rfl, rfl⟩
  go_wp2_with fail
  refine (L3 _).mono ?_
  rintro e w1 ⟨rfl, rfl⟩
  go_wp2_with fail
  refine (CI _).mono ?_
  rintro e w1 ⟨rfl, rfl⟩
  go_wp2_with fail
  refine (CB _).mono ?_
  rintro e w1 ⟨rfl, hb1⟩
  have hz : w.heap.size < w1.heap.size := by have := hb1.size; simp at this; omega
  obtain ⟨hc, hf⟩ := bcell hb1
  go_wp2
  exact bodyPost_ret (v := .agg #[.int .i64 (262144 * ((b : Int) - 240) + 4096 * x + 64 * y + z), .int .i64 (q.size : Int), .bool true]) (by simp [results, Tryz.results56, go_sem, hc]) rfl
    ⟨rfl, (((bel_of hb1).setCell (by simp) _).setCell (by simp) _).setCell (by simp) _⟩
end Go.Proofs.YtakjlolmmoladaaGreatDoor

/-
  What 'rectoref02.At' does where the bytes tell no number.
-/
namespace Go.Proofs.YtakjlolmmoladaaGreatDoor
open Go.RowKit
set_option linter.unusedVariables false

set_option maxHeartbeats 1000000 in
set_option maxRecDepth 100000 in
theorem at_none1 (s : ByteArray) (i b : Nat) (x y z : Int) (w : World) (hs : s.size ≤ 9223372036854775807) (hi2 : i ≤ 9223372036854775000) (hi : i < s.size) (e0 : (s[i]).toNat = b) (l0 : 128 ≤ b) (u0 : b < 192)
    (L1 : LowIs s ((i : Int) + 1) x) (L2 : LowIs s ((i : Int) + 2) y) (L3 : LowIs s ((i : Int) + 3) z) (CI : RIsIs (-1) false) :
    Calls Tryz.prog 56 #[.string s, .int .i64 (i : Int)] w fun e w' => e = .returned (got 65533 1 false) ∧ Below w.heap.size w w' := by
  have z0 : (i : Int) < (s.size : Int) := by omega
  go_enter Tryz.func56, Tryz.ntmps56
  go_wp2_with fail
  refine (L1 _).mono ?_
  rintro e w1 ⟨rfl, rfl⟩
  go_wp2_with fail
  refine (L2 _).mono ?_
  rintro e w1 ⟨rfl, rfl⟩
  go_wp2_with fail
  refine (L3 _).mono ?_
  rintro e w1 ⟨rfl, rfl⟩
  go_wp2_with fail
  refine (CI _).mono ?_
  rintro e w1 ⟨rfl, rfl⟩
  go_wp2
  exact bodyPost_ret (v := .agg #[.int .i64 65533, .int .i64 1, .bool false]) (by simp [results, Tryz.results56, go_sem]) rfl ⟨rfl, (Below.refl _ _).alloc (Nat.le_refl _) _⟩

set_option maxHeartbeats 1000000 in
set_option maxRecDepth 100000 in
theorem at_none2 (s : ByteArray) (i b : Nat) (x y z : Int) (w : World) (hs : s.size ≤ 9223372036854775807) (hi2 : i ≤ 9223372036854775000) (hi : i < s.size) (e0 : (s[i]).toNat = b) (l0 : 192 ≤ b) (u0 : b < 224)
    (L1 : LowIs s ((i : Int) + 1) (-1)) (L2 : LowIs s ((i : Int) + 2) y) (L3 : LowIs s ((i : Int) + 3) z) (CI : RIsIs (-1) false) :
    Calls Tryz.prog 56 #[.string s, .int .i64 (i : Int)] w fun e w' => e = .returned (got 65533 1 false) ∧ Below w.heap.size w w' := by
  have z0 : (i : Int) < (s.size : Int) := by omega
  go_enter Tryz.func56, Tryz.ntmps56
  go_wp2_with fail
  refine (L1 _).mono ?_
  rintro e w1 ⟨rfl, rfl⟩
  go_wp2_with fail
  refine (L2 _).mono ?_
  rintro e w1 ⟨rfl, rfl⟩
  go_wp2_with fail
  refine (L3 _).mono ?_
  rintro e w1 ⟨rfl, rfl⟩
  go_wp2_with fail
  refine (CI _).mono ?_
  rintro e w1 ⟨rfl, rfl⟩
  go_wp2
  exact bodyPost_ret (v := .agg #[.int .i64 65533, .int .i64 1, .bool false]) (by simp [results, Tryz.results56, go_sem]) rfl ⟨rfl, (Below.refl _ _).alloc (Nat.le_refl _) _⟩

set_option maxHeartbeats 1000000 in
set_option maxRecDepth 100000 in
theorem at_none3a (s : ByteArray) (i b : Nat) (x y z : Int) (w : World) (hs : s.size ≤ 9223372036854775807) (hi2 : i ≤ 9223372036854775000) (hi : i < s.size) (e0 : (s[i]).toNat = b) (l0 : 224 ≤ b) (u0 : b < 240)
    (L1 : LowIs s ((i : Int) + 1) (-1)) (L2 : LowIs s ((i : Int) + 2) y) (L3 : LowIs s ((i : Int) + 3) z) (CI : RIsIs (-1) false) :
    Calls Tryz.prog 56 #[.string s, .int .i64 (i : Int)] w fun e w' => e = .returned (got 65533 1 false) ∧ Below w.heap.size w w' := by
  have z0 : (i : Int) < (s.size : Int) := by omega
  go_enter Tryz.func56, Tryz.ntmps56
  go_wp2_with fail
  refine (L1 _).mono ?_
  rintro e w1 ⟨rfl, rfl⟩
  go_wp2_with fail
  refine (L2 _).mono ?_
  rintro e w1 ⟨rfl, rfl⟩
  go_wp2_with fail
  refine (L3 _).mono ?_
  rintro e w1 ⟨rfl, rfl⟩
  go_wp2_with fail
  refine (CI _).mono ?_
  rintro e w1 ⟨rfl, rfl⟩
  go_wp2
  exact bodyPost_ret (v := .agg #[.int .i64 65533, .int .i64 1, .bool false]) (by simp [results, Tryz.results56, go_sem]) rfl ⟨rfl, (Below.refl _ _).alloc (Nat.le_refl _) _⟩

set_option maxHeartbeats 1000000 in
set_option maxRecDepth 100000 in
theorem at_none3b (s : ByteArray) (i b : Nat) (x y z : Int) (w : World) (hs : s.size ≤ 9223372036854775807) (hi2 : i ≤ 9223372036854775000) (hi : i < s.size) (e0 : (s[i]).toNat = b) (l0 : 224 ≤ b) (u0 : b < 240)
    (L1 : LowIs s ((i : Int) + 1) x) (L2 : LowIs s ((i : Int) + 2) (-1)) (L3 : LowIs s ((i : Int) + 3) z) (gx : 0 ≤ x) (fx : x ≤ 63) (CI : RIsIs (-1) false) :
    Calls Tryz.prog 56 #[.string s, .int .i64 (i : Int)] w fun e w' => e = .returned (got 65533 1 false) ∧ Below w.heap.size w w' := by
  have z0 : (i : Int) < (s.size : Int) := by omega
  go_enter Tryz.func56, Tryz.ntmps56
  go_wp2_with fail
  refine (L1 _).mono ?_
  rintro e w1 ⟨rfl, rfl⟩
  go_wp2_with fail
  refine (L2 _).mono ?_
  rintro e w1 ⟨rfl, rfl⟩
  go_wp2_with fail
  refine (L3 _).mono ?_
  rintro e w1 ⟨rfl, rfl⟩
  go_wp2_with fail
  refine (CI _).mono ?_
  rintro e w1 ⟨rfl, rfl⟩
  go_wp2
  exact bodyPost_ret (v := .agg #[.int .i64 65533, .int .i64 1, .bool false]) (by simp [results, Tryz.results56, go_sem]) rfl ⟨rfl, (Below.refl _ _).alloc (Nat.le_refl _) _⟩
end Go.Proofs.YtakjlolmmoladaaGreatDoor

/-
  What 'rectoref02.At' does where the bytes tell no number.
-/
namespace Go.Proofs.YtakjlolmmoladaaGreatDoor
open Go.RowKit
set_option linter.unusedVariables false

set_option maxHeartbeats 1000000 in
set_option maxRecDepth 100000 in
theorem at_none4a (s : ByteArray) (i b : Nat) (x y z : Int) (w : World) (hs : s.size ≤ 9223372036854775807) (hi2 : i ≤ 9223372036854775000) (hi : i < s.size) (e0 : (s[i]).toNat = b) (l0 : 240 ≤ b) (u0 : b < 248)
    (L1 : LowIs s ((i : Int) + 1) (-1)) (L2 : LowIs s ((i : Int) + 2) y) (L3 : LowIs s ((i : Int) + 3) z) (CI : RIsIs (-1) false) :
    Calls Tryz.prog 56 #[.string s, .int .i64 (i : Int)] w fun e w' => e = .returned (got 65533 1 false) ∧ Below w.heap.size w w' := by
  have z0 : (i : Int) < (s.size : Int) := by omega
  go_enter Tryz.func56, Tryz.ntmps56
  go_wp2_with fail
  refine (L1 _).mono ?_
  rintro e w1 ⟨rfl, rfl⟩
  go_wp2_with fail
  refine (L2 _).mono ?_
  rintro e w1 ⟨rfl, rfl⟩
  go_wp2_with fail
  refine (L3 _).mono ?_
  rintro e w1 ⟨rfl, rfl⟩
  go_wp2_with fail
  refine (CI _).mono ?_
  rintro e w1 ⟨rfl, rfl⟩
  go_wp2
  exact bodyPost_ret (v := .agg #[.int .i64 65533, .int .i64 1, .bool false]) (by simp [results, Tryz.results56, go_sem]) rfl ⟨rfl, (Below.refl _ _).alloc (Nat.le_refl _) _⟩

set_option maxHeartbeats 1000000 in
set_option maxRecDepth 100000 in
theorem at_none4b (s : ByteArray) (i b : Nat) (x y z : Int) (w : World) (hs : s.size ≤ 9223372036854775807) (hi2 : i ≤ 9223372036854775000) (hi : i < s.size) (e0 : (s[i]).toNat = b) (l0 : 240 ≤ b) (u0 : b < 248)
    (L1 : LowIs s ((i : Int) + 1) x) (L2 : LowIs s ((i : Int) + 2) (-1)) (L3 : LowIs s ((i : Int) + 3) z) (gx : 0 ≤ x) (fx : x ≤ 63) (CI : RIsIs (-1) false) :
    Calls Tryz.prog 56 #[.string s, .int .i64 (i : Int)] w fun e w' => e = .returned (got 65533 1 false) ∧ Below w.heap.size w w' := by
  have z0 : (i : Int) < (s.size : Int) := by omega
  go_enter Tryz.func56, Tryz.ntmps56
  go_wp2_with fail
  refine (L1 _).mono ?_
  rintro e w1 ⟨rfl, rfl⟩
  go_wp2_with fail
  refine (L2 _).mono ?_
  rintro e w1 ⟨rfl, rfl⟩
  go_wp2_with fail
  refine (L3 _).mono ?_
  rintro e w1 ⟨rfl, rfl⟩
  go_wp2_with fail
  refine (CI _).mono ?_
  rintro e w1 ⟨rfl, rfl⟩
  go_wp2
  exact bodyPost_ret (v := .agg #[.int .i64 65533, .int .i64 1, .bool false]) (by simp [results, Tryz.results56, go_sem]) rfl ⟨rfl, (Below.refl _ _).alloc (Nat.le_refl _) _⟩

set_option maxHeartbeats 1000000 in
set_option maxRecDepth 100000 in
theorem at_none4c (s : ByteArray) (i b : Nat) (x y z : Int) (w : World) (hs : s.size ≤ 9223372036854775807) (hi2 : i ≤ 9223372036854775000) (hi : i < s.size) (e0 : (s[i]).toNat = b) (l0 : 240 ≤ b) (u0 : b < 248)
    (L1 : LowIs s ((i : Int) + 1) x) (L2 : LowIs s ((i : Int) + 2) y) (L3 : LowIs s ((i : Int) + 3) (-1)) (gx : 0 ≤ x) (fx : x ≤ 63) (gy : 0 ≤ y) (fy : y ≤ 63) (CI : RIsIs (-1) false) :
    Calls Tryz.prog 56 #[.string s, .int .i64 (i : Int)] w fun e w' => e = .returned (got 65533 1 false) ∧ Below w.heap.size w w' := by
  have z0 : (i : Int) < (s.size : Int) := by omega
  go_enter Tryz.func56, Tryz.ntmps56
  go_wp2_with fail
  refine (L1 _).mono ?_
  rintro e w1 ⟨rfl, rfl⟩
  go_wp2_with fail
  refine (L2 _).mono ?_
  rintro e w1 ⟨rfl, rfl⟩
  go_wp2_with fail
  refine (L3 _).mono ?_
  rintro e w1 ⟨rfl, rfl⟩
  go_wp2_with fail
  refine (CI _).mono ?_
  rintro e w1 ⟨rfl, rfl⟩
  go_wp2
  exact bodyPost_ret (v := .agg #[.int .i64 65533, .int .i64 1, .bool false]) (by simp [results, Tryz.results56, go_sem]) rfl ⟨rfl, (Below.refl _ _).alloc (Nat.le_refl _) _⟩

set_option maxHeartbeats 1000000 in
set_option maxRecDepth 100000 in
theorem at_none5 (s : ByteArray) (i b : Nat) (x y z : Int) (w : World) (hs : s.size ≤ 9223372036854775807) (hi2 : i ≤ 9223372036854775000) (hi : i < s.size) (e0 : (s[i]).toNat = b) (l0 : 248 ≤ b) (u0 : b < 256)
    (L1 : LowIs s ((i : Int) + 1) x) (L2 : LowIs s ((i : Int) + 2) y) (L3 : LowIs s ((i : Int) + 3) z) (CI : RIsIs (-1) false) :
    Calls Tryz.prog 56 #[.string s, .int .i64 (i : Int)] w fun e w' => e = .returned (got 65533 1 false) ∧ Below w.heap.size w w' := by
  have z0 : (i : Int) < (s.size : Int) := by omega
  go_enter Tryz.func56, Tryz.ntmps56
  go_wp2_with fail
  refine (L1 _).mono ?_
  rintro e w1 ⟨rfl, rfl⟩
  go_wp2_with fail
  refine (L2 _).mono ?_
  rintro e w1 ⟨rfl, rfl⟩
  go_wp2_with fail
  refine (L3 _).mono ?_
  rintro e w1 ⟨rfl, rfl⟩
  go_wp2_with fail
  refine (CI _).mono ?_
  rintro e w1 ⟨rfl, rfl⟩
  go_wp2
  exact bodyPost_ret (v := .agg #[.int .i64 65533, .int .i64 1, .bool false]) (by simp [results, Tryz.results56, go_sem]) rfl ⟨rfl, (Below.refl _ _).alloc (Nat.le_refl _) _⟩
end Go.Proofs.YtakjlolmmoladaaGreatDoor

/-
  What 'rectoref02.At' does, told by the plain function.
-/
namespace Go.Proofs.YtakjlolmmoladaaGreatDoor
open Go.RowKit
set_option linter.unusedVariables false

def gotStep (l : List UInt8) : Value := got (step l).1 ((step l).2.1 : Int) (step l).2.2
theorem gotStep_none {l : List UInt8} (h : dec l = none) : gotStep l = got 65533 1 false := by simp only [gotStep, step, h]; rfl
theorem gotStep_some {l : List UInt8} {c : Int} {n : Nat} (h : dec l = some (c, n)) : gotStep l = got c n true := by simp only [gotStep, step, h]

def RAtIs (s : ByteArray) (i : Nat) (w : World) (v : Value) : Prop := Calls Tryz.prog 56 #[.string s, .int .i64 (i : Int)] w fun e w' => e = .returned v ∧ Below w.heap.size w w'

theorem at_close (s : ByteArray) (i : Nat) (w : World) (c : Int) (n : Nat) (hs : s.size ≤ 9223372036854775807) (hi2 : i ≤ 9223372036854775000) (hi : i < s.size) (hc : cand (s.data.toList.drop i) = some (c, n))
    (f0 : RIsIs c false → RAtIs s i w (got 65533 1 false))
    (f1 : RIsIs c true → ∀ q, RBytesIs c q → q.size ≤ 4 → (s.size : Int) - (i : Int) < (q.size : Int) → RAtIs s i w (got 65533 1 false))
    (f2 : RIsIs c true → ∀ q, RBytesIs c q → q.size ≤ 4 → (q.size : Int) ≤ (s.size : Int) - (i : Int) → i + q.size ≤ s.size → ((s.extract i (i + q.size)).toList == q.toList) = false → RAtIs s i w (got 65533 1 false))
    (f3 : RIsIs c true → ∀ q, RBytesIs c q → q.size ≤ 4 → (q.size : Int) ≤ (s.size : Int) - (i : Int) → i + q.size ≤ s.size → ((s.extract i (i + q.size)).toList == q.toList) = true → RAtIs s i w (got c (q.size : Int) true)) :
    RAtIs s i w (gotStep (s.data.toList.drop i)) := by
  have hl := data_len s
  have hlen : (s.data.toList.drop i).length = s.size - i := by rw [List.length_drop, hl]
  have hne : s.data.toList.drop i ≠ [] := by
    intro e; rw [e] at hlen; simp at hlen; omega
  cases h : isC c with
  | false =>
    rw [gotStep_none (dec_not hc h)]
    exact f0 (fun w => by have := rIs_any c w; rw [h] at this; exact this)
  | true =>
    have I : RIsIs c true := fun w => by have := rIs_any c w; rw [h] at this; exact this
    have B : RBytesIs c (str (ubI c)) := fun w => rbytes_char c w h
    have hq := str_len c
    have hq4 := sz_le c
    have key := dec_of_cand hne hc h
    rw [hlen] at key
    by_cases g1 : s.size - i < sz c
    · rw [gotStep_none (dec_other hc (fun e => by have := (key.1 e).1; omega))]
      exact f1 I _ B (by omega) (by omega)
    · by_cases g2 : (s.data.toList.drop i).take (sz c) = ub c
      · have e := key.2 ⟨by omega, g2⟩
        rw [gotStep_some (dec_yes hc h e)]
        have := f3 I _ B (by omega) (by omega) (by omega) (beq_yes (by rw [hq, extract_take, g2]; rfl))
        rw [hq, e] at this
        exact this
      · rw [gotStep_none (dec_other hc (fun e => g2 (key.1 e).2))]
        exact f2 I _ B (by omega) (by omega) (by omega) (beq_no (by
          rw [hq, extract_take]
          intro e
          exact g2 (bs_inj e)))

theorem tl_drop (l : List UInt8) (i k : Nat) (h : i ≤ l.length) : (tl (l.drop i) k = true) ↔ (tl l (i + k) = true) := by
  rw [tl_iff, tl_iff, dgt_drop, List.length_drop]
  omega
theorem lo_drop (l : List UInt8) (i k : Nat) : lo (l.drop i) k = lo l (i + k) := by unfold lo; rw [dgt_drop]
theorem lowIs (s : ByteArray) (i k : Nat) (hs : s.size ≤ 9223372036854775807) (hi : i ≤ 9223372036854775000) (hk : k ≤ 3) : LowIs s ((i : Int) + (k : Int)) (lowI s.data.toList (i + k)) := by
  intro w
  have := low_any s (i + k) w (by omega) (by omega)
  rw [Int.natCast_add] at this
  exact this

theorem rat_any (s : ByteArray) (i : Nat) (w : World) (hs : s.size ≤ 9223372036854775807) (hi2 : i ≤ 9223372036854775000) (hi : i < s.size) :
    Calls Tryz.prog 56 #[.string s, .int .i64 (i : Int)] w fun e w' => e = .returned (gotStep (s.data.toList.drop i)) ∧ Below w.heap.size w w' := by
  show RAtIs s i w _
  have hl := data_len s
  have e := dgt_at s i hi
  have b0 := dgt_lt s.data.toList i
  have N1 : RIsIs (-1) false := fun w => rIs_any (-1) w
  have L1 := lowIs s i 1 hs (by omega) (by omega)
  have L2 := lowIs s i 2 hs (by omega) (by omega)
  have L3 := lowIs s i 3 hs (by omega) (by omega)
  have d0 : dgt (s.data.toList.drop i) 0 = dgt s.data.toList i := by rw [dgt_drop]; rfl
  have T := fun k => tl_drop s.data.toList i k (by omega)
  by_cases g5 : 248 ≤ dgt s.data.toList i
  · rw [gotStep_none (dec_none (cand_5 (by omega)))]
    exact at_none5 s i _ _ _ _ w hs hi2 hi e g5 b0 L1 L2 L3 N1
  by_cases g4 : 240 ≤ dgt s.data.toList i
  · have hc := cand_4 (l := s.data.toList.drop i) (by omega) (by omega)
    by_cases t1 : tl s.data.toList (i + 1) = true
    · have q1 := lo_bd t1
      rw [lowI_yes t1] at L1
      by_cases t2 : tl s.data.toList (i + 2) = true
      · have q2 := lo_bd t2
        rw [lowI_yes t2] at L2
        by_cases t3 : tl s.data.toList (i + 3) = true
        · have q3 := lo_bd t3
          rw [lowI_yes t3] at L3
          rw [if_pos ⟨(T 1).2 t1, (T 2).2 t2, (T 3).2 t3⟩, d0, lo_drop, lo_drop, lo_drop] at hc
          exact at_close s i w _ 4 hs hi2 hi hc (fun I => at_4_none s i _ _ _ _ w hs hi2 hi e g4 (by omega) L1 L2 L3 q1.1 q1.2 q2.1 q2.2 q3.1 q3.2 I)
            (fun I q B h1 h2 => at_4_short s i _ _ _ _ w hs hi2 hi e g4 (by omega) L1 L2 L3 q1.1 q1.2 q2.1 q2.2 q3.1 q3.2 I q B h1 h2)
            (fun I q B h1 h2 h3 h4 => at_4_other s i _ _ _ _ w hs hi2 hi e g4 (by omega) L1 L2 L3 q1.1 q1.2 q2.1 q2.2 q3.1 q3.2 I q B h1 h2 h3 h4)
            (fun I q B h1 h2 h3 h4 => at_4_ok s i _ _ _ _ w hs hi2 hi e g4 (by omega) L1 L2 L3 q1.1 q1.2 q2.1 q2.2 q3.1 q3.2 I q B h1 h2 h3 h4)
        · rw [lowI_no t3] at L3
          rw [if_neg (fun h => t3 ((T 3).1 h.2.2))] at hc
          rw [gotStep_none (dec_none hc)]
          exact at_none4c s i _ _ _ 0 w hs hi2 hi e g4 (by omega) L1 L2 L3 q1.1 q1.2 q2.1 q2.2 N1
      · rw [lowI_no t2] at L2
        rw [if_neg (fun h => t2 ((T 2).1 h.2.1))] at hc
        rw [gotStep_none (dec_none hc)]
        exact at_none4b s i _ _ 0 _ w hs hi2 hi e g4 (by omega) L1 L2 L3 q1.1 q1.2 N1
    · rw [lowI_no t1] at L1
      rw [if_neg (fun h => t1 ((T 1).1 h.1))] at hc
      rw [gotStep_none (dec_none hc)]
      exact at_none4a s i _ 0 _ _ w hs hi2 hi e g4 (by omega) L1 L2 L3 N1
  by_cases g3 : 224 ≤ dgt s.data.toList i
  · have hc := cand_3 (l := s.data.toList.drop i) (by omega) (by omega)
    by_cases t1 : tl s.data.toList (i + 1) = true
    · have q1 := lo_bd t1
      rw [lowI_yes t1] at L1
      by_cases t2 : tl s.data.toList (i + 2) = true
      · have q2 := lo_bd t2
        rw [lowI_yes t2] at L2
        rw [if_pos ⟨(T 1).2 t1, (T 2).2 t2⟩, d0, lo_drop, lo_drop] at hc
        exact at_close s i w _ 3 hs hi2 hi hc (fun I => at_3_none s i _ _ _ _ w hs hi2 hi e g3 (by omega) L1 L2 L3 q1.1 q1.2 q2.1 q2.2 I)
          (fun I q B h1 h2 => at_3_short s i _ _ _ _ w hs hi2 hi e g3 (by omega) L1 L2 L3 q1.1 q1.2 q2.1 q2.2 I q B h1 h2)
          (fun I q B h1 h2 h3 h4 => at_3_other s i _ _ _ _ w hs hi2 hi e g3 (by omega) L1 L2 L3 q1.1 q1.2 q2.1 q2.2 I q B h1 h2 h3 h4)
          (fun I q B h1 h2 h3 h4 => at_3_ok s i _ _ _ _ w hs hi2 hi e g3 (by omega) L1 L2 L3 q1.1 q1.2 q2.1 q2.2 I q B h1 h2 h3 h4)
      · rw [lowI_no t2] at L2
        rw [if_neg (fun h => t2 ((T 2).1 h.2))] at hc
        rw [gotStep_none (dec_none hc)]
        exact at_none3b s i _ _ 0 _ w hs hi2 hi e g3 (by omega) L1 L2 L3 q1.1 q1.2 N1
    · rw [lowI_no t1] at L1
      rw [if_neg (fun h => t1 ((T 1).1 h.1))] at hc
      rw [gotStep_none (dec_none hc)]
      exact at_none3a s i _ 0 _ _ w hs hi2 hi e g3 (by omega) L1 L2 L3 N1
  by_cases g2 : 192 ≤ dgt s.data.toList i
  · have hc := cand_2 (l := s.data.toList.drop i) (by omega) (by omega)
    by_cases t1 : tl s.data.toList (i + 1) = true
    · have q1 := lo_bd t1
      rw [lowI_yes t1] at L1
      rw [if_pos ((T 1).2 t1), d0, lo_drop] at hc
      exact at_close s i w _ 2 hs hi2 hi hc (fun I => at_2_none s i _ _ _ _ w hs hi2 hi e g2 (by omega) L1 L2 L3 q1.1 q1.2 I)
        (fun I q B h1 h2 => at_2_short s i _ _ _ _ w hs hi2 hi e g2 (by omega) L1 L2 L3 q1.1 q1.2 I q B h1 h2)
        (fun I q B h1 h2 h3 h4 => at_2_other s i _ _ _ _ w hs hi2 hi e g2 (by omega) L1 L2 L3 q1.1 q1.2 I q B h1 h2 h3 h4)
        (fun I q B h1 h2 h3 h4 => at_2_ok s i _ _ _ _ w hs hi2 hi e g2 (by omega) L1 L2 L3 q1.1 q1.2 I q B h1 h2 h3 h4)
    · rw [lowI_no t1] at L1
      rw [if_neg (fun h => t1 ((T 1).1 h))] at hc
      rw [gotStep_none (dec_none hc)]
      exact at_none2 s i _ 0 _ _ w hs hi2 hi e g2 (by omega) L1 L2 L3 N1
  by_cases g1 : 128 ≤ dgt s.data.toList i
  · rw [gotStep_none (dec_none (cand_0 (by omega) (by omega)))]
    exact at_none1 s i _ _ _ _ w hs hi2 hi e g1 (by omega) L1 L2 L3 N1
  · have hc := cand_1 (l := s.data.toList.drop i) (by omega)
    rw [d0] at hc
    exact at_close s i w _ 1 hs hi2 hi hc (fun I => at_1_none s i _ _ _ _ w hs hi2 hi e (by omega) L1 L2 L3 I)
      (fun I q B h1 h2 => at_1_short s i _ _ _ _ w hs hi2 hi e (by omega) L1 L2 L3 I q B h1 h2)
      (fun I q B h1 h2 h3 h4 => at_1_other s i _ _ _ _ w hs hi2 hi e (by omega) L1 L2 L3 I q B h1 h2 h3 h4)
      (fun I q B h1 h2 h3 h4 => at_1_ok s i _ _ _ _ w hs hi2 hi e (by omega) L1 L2 L3 I q B h1 h2 h3 h4)
end Go.Proofs.YtakjlolmmoladaaGreatDoor

/-
  What the reference's 'At' and 'All' of layer 4 do.
-/
namespace Go.Proofs.YtakjlolmmoladaaGreatDoor
open Go.RowKit
set_option linter.unusedVariables false

theorem at_num {l : List UInt8} {v : Bool} (h0 : dgt l 0 = 38) (hn : 0 < (numAt l).2) : atL l v = (ub (numC (numAt l).1), (numAt l).2) := by
  rw [atL]; unfold atWith; rw [if_neg (by simp [h0]), if_pos hn]
theorem at_name {l : List UInt8} {v : Bool} (h0 : dgt l 0 = 38) (hn : ¬ 0 < (numAt l).2) {c : Int} {n : Nat} (hb : BF (l.drop 1) v 28 c n) : atL l v = if 0 < n then (ub c, (n : Int)) else ([38], 1) := by
  rw [atL, hb.2]; unfold atWith; rw [if_neg (by simp [h0]), if_neg hn]
theorem no_name {m : List UInt8} {v : Bool} (h : dgt m 0 = 35) {c : Int} {n : Nat} (hb : BF m v 28 c n) : n = 0 := by
  rcases hb.1 with ⟨h1, _⟩ | ⟨h0, i, hi, hc, _⟩
  · exact h1
  · exfalso
    have hf := nm_facts i hi
    have key : m.take (nmName i).length = nmName i → False := by
      intro ht
      have hm : 0 < m.length := by
        rcases Nat.eq_zero_or_pos m.length with g | g
        · rw [List.eq_nil_of_length_eq_zero g, List.take_nil] at ht
          have := congrArg List.length ht; simp at this; omega
        · exact g
      obtain ⟨x, hx, hxn⟩ := dgt_take (m := m) (n := 1) (by omega) (by omega)
      have hx2 : x ∈ nmName i := by
        rw [← ht]
        have : m.take 1 <+: m.take (nmName i).length := List.take_prefix_take_left (by omega)
        exact this.subset hx
      have := ltN_true (nm_plain i hi x hx2)
      rw [hxn] at this
      simp only [Nat.sub_self] at this
      omega
    rcases cand_hit hi (by rw [hc]; exact h0) with ⟨_, h2, h3⟩ | ⟨_, h2, h3⟩
    · exact key (by rw [h2, show (nmName i).length + 2 - 2 = (nmName i).length by omega] at h3; exact h3)
    · exact key (by rw [h2, show (nmName i).length + 1 - 1 = (nmName i).length by omega] at h3; exact h3)

theorem atB_drop (l : List UInt8) (i k : Nat) : atB l (i + k) = dgt (l.drop i) k := by
  rw [atB_dgt, dgt_drop]
theorem dgt_pos {l : List UInt8} {k : Nat} (h : dgt l k ≠ 0) : k < l.length := by
  rcases Nat.lt_or_ge k l.length with g | g
  · exact g
  · exfalso; apply h; unfold dgt; rw [List.getD, List.getElem?_eq_none g]; rfl
theorem pre_two {l : List UInt8} (h0 : dgt l 0 = 38) (h1 : dgt l 1 = 35) : [38, 35].isPrefixOf l = true := by
  have hl := dgt_pos (l := l) (k := 1) (by omega)
  match l, hl, h0, h1 with
  | a :: b :: r, _, h0, h1 =>
    have ea : a = 38 := UInt8.toNat.inj h0
    have eb : b = 35 := UInt8.toNat.inj h1
    subst ea; subst eb; rfl
theorem two_pre {l : List UInt8} (h : [38, 35].isPrefixOf l = true) : dgt l 1 = 35 := by
  obtain ⟨t, rfl⟩ := List.isPrefixOf_iff_prefix.1 h
  rfl
theorem at_named {l : List UInt8} {v : Bool} (h0 : dgt l 0 = 38) (h1 : ¬ dgt l 1 = 35) : match refL (l.drop 1) v with | none => atL l v = ([38], 1) | some (c, n) => atL l v = (ub c, (n : Int) + 1) := by
  have hn : ¬ 0 < (numAt l).2 := by
    unfold numAt
    rw [if_neg (fun h => h1 (two_pre h))]; simp
  obtain ⟨c, n, hb⟩ := best_ex (l.drop 1) v 28
  rw [at_name h0 hn hb, refL_best hb.1]
  by_cases e : n = 0
  · rw [if_pos e, if_neg (by omega)]
  · rw [if_neg e, if_pos (by omega)]
    simp only []
    congr 1; omega
theorem at_hash {l : List UInt8} {v : Bool} (h0 : dgt l 0 = 38) (h1 : dgt l 1 = 35) {fr base : Nat} (hn : numAt l = numEnd l fr (numG base 0 (l.drop fr))) (hb1 : 1 ≤ base) (hf : 1 ≤ fr) :
    ((numR base 0 (l.drop fr)).2 = 0 → atL l v = ([38], 1)) ∧ ((numR base 0 (l.drop fr)).2 ≠ 0 → atL l v = (ub (numC ((numR base 0 (l.drop fr)).1 : Int)), ((fr + (numR base 0 (l.drop fr)).2 + semiN (l.drop (fr + (numR base 0 (l.drop fr)).2)) : Nat) : Int))) := by
  have hc := num_char hb1 (l.drop fr)
  rw [hc.1, hc.2]
  unfold numEnd at hn
  constructor
  · intro hz
    rw [if_pos hz] at hn
    obtain ⟨c, n, hb⟩ := best_ex (l.drop 1) v 28
    rw [at_name h0 (by rw [hn]; simp) hb, if_neg]
    have := no_name (by rw [dgt_drop]; exact h1) hb
    omega
  · intro hz
    rw [if_neg hz] at hn
    have h2 : 0 < (numAt l).2 := by rw [hn]; simp only []; omega
    rw [at_num h0 h2, hn]
theorem numAt_hex {l : List UInt8} (h0 : dgt l 0 = 38) (h1 : dgt l 1 = 35) (h2 : dgt l 2 = 120 ∨ dgt l 2 = 88) : numAt l = numEnd l 3 (numG 16 0 (l.drop 3)) := by
  have hl := dgt_pos (l := l) (k := 2) (by omega)
  have hx : isHex l = true := decide_eq_true ⟨hl, h2⟩
  unfold numAt
  rw [if_pos (pre_two h0 h1), if_pos hx]
theorem numAt_ten {l : List UInt8} (h0 : dgt l 0 = 38) (h1 : dgt l 1 = 35) (h2 : ¬ (dgt l 2 = 120 ∨ dgt l 2 = 88)) : numAt l = numEnd l 2 (numG 10 0 (l.drop 2)) := by
  have hx : ¬ isHex l = true := fun h => h2 (of_decide_eq_true h).2
  unfold numAt
  rw [if_pos (pre_two h0 h1), if_neg hx]

def rAtV (s : ByteArray) (i : Nat) (v : Bool) : Value := gotR (atL (s.data.toList.drop i) v).1 ((i : Int) + (atL (s.data.toList.drop i) v).2)
theorem rat_none (s : ByteArray) (a : Int) (v : Bool) (w : World) (hs : s.size ≤ 9223372036854775000) (h : a < 0 ∨ (s.size : Int) ≤ a) :
    Calls Tryz.prog 36 #[.string s, .int .i64 a, .bool v] w fun e w' => e = .returned (gotR [] (s.size : Int)) ∧ Below w.heap.size w w' := by
  by_cases h1 : a < 0
  · clear h
    go_enter Tryz.func36, Tryz.ntmps36
    go_wp2
    exact bodyPost_ret (v := gotR [] (s.size : Int)) (by simp [results, Tryz.results36, go_sem, gotR, bs]) rfl ⟨rfl, (Below.refl _ _).alloc (Nat.le_refl _) _⟩
  · have h2 : (s.size : Int) ≤ a := by omega
    clear h
    go_enter Tryz.func36, Tryz.ntmps36
    go_wp2
    exact bodyPost_ret (v := gotR [] (s.size : Int)) (by simp [results, Tryz.results36, go_sem, gotR, bs]) rfl ⟨rfl, (Below.refl _ _).alloc (Nat.le_refl _) _⟩
end Go.Proofs.YtakjlolmmoladaaGreatDoor

/-
  What 'utf.isWrong' and 'utf.Right' do.
-/
namespace Go.Proofs.YtakjlolmmoladaaGreatDoor
open Go.RowKit
set_option linter.unusedVariables false

end Go.Proofs.YtakjlolmmoladaaGreatDoor

/-
  What 'utf.Clean' does: of every text that isn't too long, it cleaned.
-/
namespace Go.Proofs.YtakjlolmmoladaaGreatDoor
open Go.RowKit
set_option linter.unusedVariables false

end Go.Proofs.YtakjlolmmoladaaGreatDoor

/-
  The law RefsPlain walked: a text without & is itself, cleaned; and what stands ahead of a text stays ahead of it.
-/
namespace Go.Proofs.YtakjlolmmoladaaGreatDoor
open Go.RowKit
set_option linter.unusedVariables false

theorem ssame (x : ByteArray) : (x.toList == x.toList) = true := by simp
theorem at_plain {l : List UInt8} (v : Bool) (h : ¬ dgt l 0 = 38) : atL l v = (ub (step l).1, ((step l).2.1 : Int)) := by
  rw [atL]; unfold atWith; rw [if_pos h]
def noAmp (l : List UInt8) : Prop := ∀ k, k < l.length → ¬ dgt l k = 38
theorem noAmp_drop {l : List UInt8} (h : noAmp l) (n : Nat) : noAmp (l.drop n) := by
  intro k hk
  rw [List.length_drop] at hk
  rw [dgt_drop]; exact h (n + k) (by omega)
theorem all_plain (v : Bool) : ∀ (f : Nat) (l : List UInt8), l.length ≤ f → noAmp l → allL v l = cleanL l
  | 0, l, h, _ => by
    have : l = [] := List.eq_nil_of_length_eq_zero (by omega)
    subst this; rfl
  | f + 1, l, h, hn => by
    by_cases e : l = []
    · subst e; rfl
    · have hl : 0 < l.length := List.length_pos_iff.2 e
      have hok := step_ok e
      rw [allL_cons v e, cleanL_cons e, at_plain v (hn 0 hl)]
      simp only [Int.toNat_natCast]
      rw [all_plain v f _ (by rw [List.length_drop]; omega) (noAmp_drop hn _)]
theorem dgt_app (a b : List UInt8) (k : Nat) (h : k < a.length) : dgt (a ++ b) k = dgt a k := by
  unfold dgt; rw [List.getD, List.getD, List.getElem?_append_left h]
theorem all_ahead (v : Bool) (t : List UInt8) : ∀ (f : Nat) (l : List UInt8), l.length ≤ f → noAmp l → rightB l = true → allL v (l ++ t) = l ++ allL v t
  | 0, l, h, _, _ => by
    have : l = [] := List.eq_nil_of_length_eq_zero (by omega)
    subst this; rfl
  | f + 1, l, h, hn, hr => by
    by_cases e : l = []
    · subst e; rfl
    · have hl : 0 < l.length := List.length_pos_iff.2 e
      have hok := step_ok e
      rw [rightB_cons e, Bool.and_eq_true] at hr
      have htk := step_take e hr.1
      have hst : step (l ++ t) = ((step l).1, (step l).2.1, true) := by
        have : l ++ t = ub (step l).1 ++ (l.drop (step l).2.1 ++ t) := by
          rw [← htk.1, ← List.append_assoc, List.take_append_drop]
        rw [this, step_ub _ _ hok.2.2.2, htk.2]
      have hne : l ++ t ≠ [] := by simp [e]
      have hdrop : (l ++ t).drop (step l).2.1 = l.drop (step l).2.1 ++ t := by
        rw [List.drop_append_of_le_length (by omega)]
      rw [allL_cons v hne, at_plain v (by rw [dgt_app _ _ _ hl]; exact hn 0 hl), hst]
      simp only [Int.toNat_natCast]
      rw [hdrop, all_ahead v t f _ (by rw [List.length_drop]; omega) (noAmp_drop hn _) hr.2, ← List.append_assoc, ← htk.1, List.take_append_drop]
theorem allL_len (v : Bool) : ∀ (f : Nat) (l : List UInt8), l.length ≤ f → (allL v l).length ≤ 4 * l.length
  | 0, l, h => by
    have : l = [] := List.eq_nil_of_length_eq_zero (by omega)
    subst this; simp [allL_nil]
  | f + 1, l, h => by
    by_cases e : l = []
    · subst e; simp [allL_nil]
    · have hb := at_bd v e
      have hl : 0 < l.length := List.length_pos_iff.2 e
      have ih := allL_len v f (l.drop (atL l v).2.toNat) (by rw [List.length_drop]; omega)
      rw [allL_cons v e, List.length_append]
      rw [List.length_drop] at ih
      omega
theorem amp_cases (l : List UInt8) : (∃ k, k < l.length ∧ dgt l k = 38 ∧ ∀ j, j < k → ¬ dgt l j = 38) ∨ noAmp l := by
  have : ∀ n, n ≤ l.length → (∃ k, k < n ∧ dgt l k = 38 ∧ ∀ j, j < k → ¬ dgt l j = 38) ∨ ∀ k, k < n → ¬ dgt l k = 38 := by
    intro n
    induction n with
    | zero => intro _; exact .inr (fun k hk => by omega)
    | succ n ih =>
      intro hn
      rcases ih (by omega) with ⟨k, h1, h2⟩ | h
      · exact .inl ⟨k, by omega, h2⟩
      · by_cases e : dgt l n = 38
        · exact .inl ⟨n, by omega, e, h⟩
        · refine .inr (fun k hk => ?_)
          by_cases hkn : k = n
          · rw [hkn]; exact e
          · exact h k (by omega)
  exact this l.length (Nat.le_refl _)

end Go.Proofs.YtakjlolmmoladaaGreatDoor

/-
  What the reference's 'At' of layer 4 does where no & stands.
-/
namespace Go.Proofs.YtakjlolmmoladaaGreatDoor
open Go.RowKit
set_option linter.unusedVariables false

set_option maxHeartbeats 4000000 in
set_option maxRecDepth 100000 in
theorem rat_other (s : ByteArray) (i : Nat) (v : Bool) (w : World) (hs : s.size ≤ 100000) (hi : i < s.size) (h38 : ¬ dgt s.data.toList i = 38) :
    Calls Tryz.prog 36 #[.string s, .int .i64 (i : Int), .bool v] w fun e w' => e = .returned (rAtV s i v) ∧ Below w.heap.size w w' := by
  have i0 : ¬ (i : Int) < 0 := by omega
  have i1 : (i : Int) < (s.size : Int) := by omega
  have i2 : ¬ (s.size : Int) ≤ (i : Int) := by omega
  have e := dgt_at s i hi
  have hne : s.data.toList.drop i ≠ [] := by
    intro h; have := congrArg List.length h; rw [List.length_drop, data_len] at this; simp at this; omega
  have hok := step_ok hne
  have CA := hide (fun w => rat_any s i w (by omega) (by omega) hi)
  unfold gotStep got at CA
  have CB := hide (fun w => rbytes_char (step (s.data.toList.drop i)).1 w hok.2.2.2)
  have hV : rAtV s i v = gotR (ub (step (s.data.toList.drop i)).1) ((i : Int) + ((step (s.data.toList.drop i)).2.1 : Int)) := by
    unfold rAtV; rw [at_plain v (by rw [dgt_drop, Nat.add_zero]; exact h38)]
  have HV := hide hV
  have hn4 : (step (s.data.toList.drop i)).2.1 ≤ 4 := hok.2.2.1
  clear hV hok hne
  generalize dgt s.data.toList i = b at *
  have n38 : ((b : Int) == 38) = false := bneI (by omega)
  have m38 : ((b : Int) != 38) = true := by simp; omega
  generalize (step (s.data.toList.drop i)).1 = c at *
  generalize (step (s.data.toList.drop i)).2.1 = n at *
  generalize (step (s.data.toList.drop i)).2.2 = r at *
  clear h38
  have hw := wrap_small ((i : Int) + (n : Int)) (by omega) (by omega)
  go_enter Tryz.func36, Tryz.ntmps36
  go_wp2_with fail
  refine (unhide CA _).mono ?_
  rintro e1 w2 ⟨rfl, hb2⟩
  have k0 : (w2.alloc (.cells #[.int .i64 c, .int .i64 (n : Int), .bool r] 89)).cell? ⟨w2.heap.size, 0, none⟩ = some (.int .i64 c) := World.cell?_alloc_at _ _ _ _ rfl
  have k1 : (w2.alloc (.cells #[.int .i64 c, .int .i64 (n : Int), .bool r] 89)).cell? ⟨w2.heap.size, 1, none⟩ = some (.int .i64 (n : Int)) := World.cell?_alloc_at _ _ _ _ rfl
  have hbX := tr2 (bel_of hb2) ((Below.refl _ w2).alloc (Nat.le_refl _) (.cells #[.int .i64 c, .int .i64 (n : Int), .bool r] 89))
  go_wp2_with fail
  generalize w2.alloc (.cells #[.int .i64 c, .int .i64 (n : Int), .bool r] 89) = wx at *
  generalize w2.heap.size = g at *
  have hzx : w.heap.size < wx.heap.size := by have := hbX.size; simp at this; omega
  obtain ⟨hcx, hfx⟩ := bcell hbX
  go_region_with (go_at_call 57; refine (unhide CB _).mono ?_; rintro e1 w3 ⟨rfl, hb3⟩; have d0 : w3.cell? ⟨g, 0, none⟩ = some (.int .i64 c) := cell_later hb3 k0; have d1 : w3.cell? ⟨g, 1, none⟩ = some (.int .i64 (n : Int)) := cell_later hb3 k1; have hbz := tr2 (Below.drew hbX) hb3; have hz3 : w.heap.size < w3.heap.size := (by have := hbz.size; simp at this; omega); obtain ⟨hc3, hf3⟩ := bcell hbz)
  all_goals
    go_wp2
    exact bodyPost_ret (v := gotR (ub c) ((i : Int) + (n : Int))) (by simp [results, Tryz.results36, go_sem, gotR, hc3, str_ub]) rfl ⟨by rw [unhide HV], ((bel_of hbz).setCell (by simp) _).setCell (by simp) _⟩
end Go.Proofs.YtakjlolmmoladaaGreatDoor

/-
  What the reference's 'At' of layer 4 does where an & stands.
-/
namespace Go.Proofs.YtakjlolmmoladaaGreatDoor
open Go.RowKit
set_option linter.unusedVariables false

theorem cell_far (w : World) (b b' o o' : Nat) (v : Value) (h : b ≠ b') : (w.setCell ⟨b, o, none⟩ v).cell? ⟨b', o', none⟩ = w.cell? ⟨b', o', none⟩ := by
  have h' : ¬ b = b' := h
  simp [World.cell?, World.setCell, Array.getElem?_modify, h']

set_option maxHeartbeats 4000000 in
set_option maxRecDepth 100000 in
theorem ramp_nam_yes (s : ByteArray) (i a1 a2 : Nat) (v : Bool) (x : List UInt8) (m : Int) (w : World) (hs : s.size ≤ 100000) (hi : i < s.size) (h38 : dgt s.data.toList i = 38)
    (CA1 : Hid (∀ w, Calls Tryz.prog 58 #[.string s, .int .i64 ((i : Int) + 1)] w fun e w' => e = .returned (.int .u8 (a1 : Int)) ∧ w' = w))
    (CA2 : Hid (∀ w, Calls Tryz.prog 58 #[.string s, .int .i64 ((i : Int) + 2)] w fun e w' => e = .returned (.int .u8 (a2 : Int)) ∧ w' = w))
    (hN : Hid (∀ w, Calls Tryz.prog 59 #[.string s, .int .i64 ((i : Int) + 1), .bool v] w fun e w' => e = .returned (gotR x m) ∧ Below w.heap.size w w')) (n1 : ((a1 : Int) == 35) = false) (hm : 0 ≤ m) :
    Calls Tryz.prog 36 #[.string s, .int .i64 (i : Int), .bool v] w fun e w' => e = .returned (gotR x m) ∧ Below w.heap.size w w' := by
  have i0 : ¬ (i : Int) < 0 := by omega
  have i1 : (i : Int) < (s.size : Int) := by omega
  have i2 : ¬ (s.size : Int) ≤ (i : Int) := by omega
  have e := dgt_at s i hi
  rw [h38] at e
  unfold gotR at hN
  have hm2 : ¬ m < 0 := by omega
  clear h38
  go_enter Tryz.func36, Tryz.ntmps36
  go_wp2_with fail
  refine (unhide CA1 _).mono ?_
  rintro e1 w1 ⟨rfl, rfl⟩
  go_wp2_with fail
  refine (unhide hN _).mono ?_
  rintro e1 w2 ⟨rfl, hb2⟩
  have hz2 : w.heap.size + 2 < w2.heap.size := by have := hb2.size; simp at this; omega
  have hz1 : w.heap.size + 1 < w2.heap.size := by omega
  have hz0 : w.heap.size < w2.heap.size := by omega
  obtain ⟨hc, hf⟩ := bcell hb2
  have hb02 : Below w.heap.size w w2 := ((((Below.refl w.heap.size w).alloc (Nat.le_refl _) _).alloc (by simp) _).alloc (by simp; omega) _).trans (hb2.mono (by simp; omega))
  have fX0 : ∀ X Y, ((w2.setCell ⟨w.heap.size + 1 + 1, 0, none⟩ X).setCell ⟨w.heap.size + 1 + 1, 1, none⟩ Y).cell? ⟨w.heap.size, 0, none⟩ = some (.string ⟨#[]⟩) := fun X Y => by
    rw [cell_far _ _ _ _ _ _ (by omega), cell_far _ _ _ _ _ _ (by omega), hc w.heap.size 0 (by simp <;> omega)]; simp [go_sem]
  have fX1 : ∀ X Y, ((w2.setCell ⟨w.heap.size + 1 + 1, 0, none⟩ X).setCell ⟨w.heap.size + 1 + 1, 1, none⟩ Y).cell? ⟨w.heap.size, 1, none⟩ = some (.int .i64 0) := fun X Y => by
    rw [cell_far _ _ _ _ _ _ (by omega), cell_far _ _ _ _ _ _ (by omega), hc w.heap.size 1 (by simp <;> omega)]; simp [go_sem]
  have FX0 := hide fX0
  have FX1 := hide fX1
  clear fX0 fX1
  go_wp2
  have fX0 := unhide FX0
  have fX1 := unhide FX1
  exact bodyPost_ret (v := gotR x m) (by simp [results, Tryz.results36, go_sem, gotR, bs, fX0, fX1]) rfl ⟨rfl, (((hb02.setCell (by simp <;> omega) _).setCell (by simp <;> omega) _).setCell (by simp) _).setCell (by simp) _⟩

set_option maxHeartbeats 4000000 in
set_option maxRecDepth 100000 in
theorem ramp_nam_no (s : ByteArray) (i a1 a2 : Nat) (v : Bool) (x : List UInt8) (m : Int) (w : World) (hs : s.size ≤ 100000) (hi : i < s.size) (h38 : dgt s.data.toList i = 38)
    (CA1 : Hid (∀ w, Calls Tryz.prog 58 #[.string s, .int .i64 ((i : Int) + 1)] w fun e w' => e = .returned (.int .u8 (a1 : Int)) ∧ w' = w))
    (CA2 : Hid (∀ w, Calls Tryz.prog 58 #[.string s, .int .i64 ((i : Int) + 2)] w fun e w' => e = .returned (.int .u8 (a2 : Int)) ∧ w' = w))
    (hN : Hid (∀ w, Calls Tryz.prog 59 #[.string s, .int .i64 ((i : Int) + 1), .bool v] w fun e w' => e = .returned (gotR x m) ∧ Below w.heap.size w w')) (n1 : ((a1 : Int) == 35) = false) (hm : m < 0) :
    Calls Tryz.prog 36 #[.string s, .int .i64 (i : Int), .bool v] w fun e w' => e = .returned (gotR [38] ((i : Int) + 1)) ∧ Below w.heap.size w w' := by
  have i0 : ¬ (i : Int) < 0 := by omega
  have i1 : (i : Int) < (s.size : Int) := by omega
  have i2 : ¬ (s.size : Int) ≤ (i : Int) := by omega
  have e := dgt_at s i hi
  rw [h38] at e
  unfold gotR at hN
  have hm2 : ¬ 0 ≤ m := by omega
  clear h38
  go_enter Tryz.func36, Tryz.ntmps36
  go_wp2_with fail
  refine (unhide CA1 _).mono ?_
  rintro e1 w1 ⟨rfl, rfl⟩
  go_wp2_with fail
  refine (unhide hN _).mono ?_
  rintro e1 w2 ⟨rfl, hb2⟩
  have hz2 : w.heap.size + 2 < w2.heap.size := by have := hb2.size; simp at this; omega
  have hz1 : w.heap.size + 1 < w2.heap.size := by omega
  have hz0 : w.heap.size < w2.heap.size := by omega
  obtain ⟨hc, hf⟩ := bcell hb2
  have hb02 : Below w.heap.size w w2 := ((((Below.refl w.heap.size w).alloc (Nat.le_refl _) _).alloc (by simp) _).alloc (by simp; omega) _).trans (hb2.mono (by simp; omega))
  have fX0 : ∀ X Y, ((w2.setCell ⟨w.heap.size + 1 + 1, 0, none⟩ X).setCell ⟨w.heap.size + 1 + 1, 1, none⟩ Y).cell? ⟨w.heap.size, 0, none⟩ = some (.string ⟨#[]⟩) := fun X Y => by
    rw [cell_far _ _ _ _ _ _ (by omega), cell_far _ _ _ _ _ _ (by omega), hc w.heap.size 0 (by simp <;> omega)]; simp [go_sem]
  have fX1 : ∀ X Y, ((w2.setCell ⟨w.heap.size + 1 + 1, 0, none⟩ X).setCell ⟨w.heap.size + 1 + 1, 1, none⟩ Y).cell? ⟨w.heap.size, 1, none⟩ = some (.int .i64 0) := fun X Y => by
    rw [cell_far _ _ _ _ _ _ (by omega), cell_far _ _ _ _ _ _ (by omega), hc w.heap.size 1 (by simp <;> omega)]; simp [go_sem]
  have FX0 := hide fX0
  have FX1 := hide fX1
  clear fX0 fX1
  go_wp2
  have fX0 := unhide FX0
  have fX1 := unhide FX1
  exact bodyPost_ret (v := gotR [38] ((i : Int) + 1)) (by simp [results, Tryz.results36, go_sem, gotR, bs, fX0, fX1]) rfl ⟨rfl, (((hb02.setCell (by simp <;> omega) _).setCell (by simp <;> omega) _).setCell (by simp) _).setCell (by simp) _⟩

set_option maxHeartbeats 4000000 in
set_option maxRecDepth 100000 in
theorem ramp_hex_yes (s : ByteArray) (i a1 a2 : Nat) (v : Bool) (x : List UInt8) (m : Int) (w : World) (hs : s.size ≤ 100000) (hi : i < s.size) (h38 : dgt s.data.toList i = 38)
    (CA1 : Hid (∀ w, Calls Tryz.prog 58 #[.string s, .int .i64 ((i : Int) + 1)] w fun e w' => e = .returned (.int .u8 (a1 : Int)) ∧ w' = w))
    (CA2 : Hid (∀ w, Calls Tryz.prog 58 #[.string s, .int .i64 ((i : Int) + 2)] w fun e w' => e = .returned (.int .u8 (a2 : Int)) ∧ w' = w))
    (hN : Hid (∀ w, Calls Tryz.prog 60 #[.string s, .int .i64 ((i : Int) + 3), .int .i64 16] w fun e w' => e = .returned (gotR x m) ∧ Below w.heap.size w w')) (n1 : a1 = 35) (n2 : a2 = 120) (hm : 0 ≤ m) :
    Calls Tryz.prog 36 #[.string s, .int .i64 (i : Int), .bool v] w fun e w' => e = .returned (gotR x m) ∧ Below w.heap.size w w' := by
  have i0 : ¬ (i : Int) < 0 := by omega
  have i1 : (i : Int) < (s.size : Int) := by omega
  have i2 : ¬ (s.size : Int) ≤ (i : Int) := by omega
  have e := dgt_at s i hi
  rw [h38] at e
  unfold gotR at hN
  have hm2 : ¬ m < 0 := by omega
  subst n1
  subst n2
  clear h38
  go_enter Tryz.func36, Tryz.ntmps36
  go_wp2_with fail
  refine (unhide CA1 _).mono ?_
  rintro e1 w1 ⟨rfl, rfl⟩
  go_wp2_with fail
  refine (unhide CA2 _).mono ?_
  rintro e1 w1 ⟨rfl, rfl⟩
  go_wp2_with fail
  refine (unhide hN _).mono ?_
  rintro e1 w2 ⟨rfl, hb2⟩
  have hz2 : w.heap.size + 2 < w2.heap.size := by have := hb2.size; simp at this; omega
  have hz1 : w.heap.size + 1 < w2.heap.size := by omega
  have hz0 : w.heap.size < w2.heap.size := by omega
  obtain ⟨hc, hf⟩ := bcell hb2
  have hb02 : Below w.heap.size w w2 := ((((Below.refl w.heap.size w).alloc (Nat.le_refl _) _).alloc (by simp) _).alloc (by simp; omega) _).trans (hb2.mono (by simp; omega))
  have fX0 : ∀ X Y, ((w2.setCell ⟨w.heap.size + 1 + 1, 0, none⟩ X).setCell ⟨w.heap.size + 1 + 1, 1, none⟩ Y).cell? ⟨w.heap.size, 0, none⟩ = some (.string ⟨#[]⟩) := fun X Y => by
    rw [cell_far _ _ _ _ _ _ (by omega), cell_far _ _ _ _ _ _ (by omega), hc w.heap.size 0 (by simp <;> omega)]; simp [go_sem]
  have fX1 : ∀ X Y, ((w2.setCell ⟨w.heap.size + 1 + 1, 0, none⟩ X).setCell ⟨w.heap.size + 1 + 1, 1, none⟩ Y).cell? ⟨w.heap.size, 1, none⟩ = some (.int .i64 0) := fun X Y => by
    rw [cell_far _ _ _ _ _ _ (by omega), cell_far _ _ _ _ _ _ (by omega), hc w.heap.size 1 (by simp <;> omega)]; simp [go_sem]
  have FX0 := hide fX0
  have FX1 := hide fX1
  clear fX0 fX1
  go_wp2
  have fX0 := unhide FX0
  have fX1 := unhide FX1
  exact bodyPost_ret (v := gotR x m) (by simp [results, Tryz.results36, go_sem, gotR, bs, fX0, fX1]) rfl ⟨rfl, (((hb02.setCell (by simp <;> omega) _).setCell (by simp <;> omega) _).setCell (by simp) _).setCell (by simp) _⟩

set_option maxHeartbeats 4000000 in
set_option maxRecDepth 100000 in
theorem ramp_hex_no (s : ByteArray) (i a1 a2 : Nat) (v : Bool) (x : List UInt8) (m : Int) (w : World) (hs : s.size ≤ 100000) (hi : i < s.size) (h38 : dgt s.data.toList i = 38)
    (CA1 : Hid (∀ w, Calls Tryz.prog 58 #[.string s, .int .i64 ((i : Int) + 1)] w fun e w' => e = .returned (.int .u8 (a1 : Int)) ∧ w' = w))
    (CA2 : Hid (∀ w, Calls Tryz.prog 58 #[.string s, .int .i64 ((i : Int) + 2)] w fun e w' => e = .returned (.int .u8 (a2 : Int)) ∧ w' = w))
    (hN : Hid (∀ w, Calls Tryz.prog 60 #[.string s, .int .i64 ((i : Int) + 3), .int .i64 16] w fun e w' => e = .returned (gotR x m) ∧ Below w.heap.size w w')) (n1 : a1 = 35) (n2 : a2 = 120) (hm : m < 0) :
    Calls Tryz.prog 36 #[.string s, .int .i64 (i : Int), .bool v] w fun e w' => e = .returned (gotR [38] ((i : Int) + 1)) ∧ Below w.heap.size w w' := by
  have i0 : ¬ (i : Int) < 0 := by omega
  have i1 : (i : Int) < (s.size : Int) := by omega
  have i2 : ¬ (s.size : Int) ≤ (i : Int) := by omega
  have e := dgt_at s i hi
  rw [h38] at e
  unfold gotR at hN
  have hm2 : ¬ 0 ≤ m := by omega
  subst n1
  subst n2
  clear h38
  go_enter Tryz.func36, Tryz.ntmps36
  go_wp2_with fail
  refine (unhide CA1 _).mono ?_
  rintro e1 w1 ⟨rfl, rfl⟩
  go_wp2_with fail
  refine (unhide CA2 _).mono ?_
  rintro e1 w1 ⟨rfl, rfl⟩
  go_wp2_with fail
  refine (unhide hN _).mono ?_
  rintro e1 w2 ⟨rfl, hb2⟩
  have hz2 : w.heap.size + 2 < w2.heap.size := by have := hb2.size; simp at this; omega
  have hz1 : w.heap.size + 1 < w2.heap.size := by omega
  have hz0 : w.heap.size < w2.heap.size := by omega
  obtain ⟨hc, hf⟩ := bcell hb2
  have hb02 : Below w.heap.size w w2 := ((((Below.refl w.heap.size w).alloc (Nat.le_refl _) _).alloc (by simp) _).alloc (by simp; omega) _).trans (hb2.mono (by simp; omega))
  have fX0 : ∀ X Y, ((w2.setCell ⟨w.heap.size + 1 + 1, 0, none⟩ X).setCell ⟨w.heap.size + 1 + 1, 1, none⟩ Y).cell? ⟨w.heap.size, 0, none⟩ = some (.string ⟨#[]⟩) := fun X Y => by
    rw [cell_far _ _ _ _ _ _ (by omega), cell_far _ _ _ _ _ _ (by omega), hc w.heap.size 0 (by simp <;> omega)]; simp [go_sem]
  have fX1 : ∀ X Y, ((w2.setCell ⟨w.heap.size + 1 + 1, 0, none⟩ X).setCell ⟨w.heap.size + 1 + 1, 1, none⟩ Y).cell? ⟨w.heap.size, 1, none⟩ = some (.int .i64 0) := fun X Y => by
    rw [cell_far _ _ _ _ _ _ (by omega), cell_far _ _ _ _ _ _ (by omega), hc w.heap.size 1 (by simp <;> omega)]; simp [go_sem]
  have FX0 := hide fX0
  have FX1 := hide fX1
  clear fX0 fX1
  go_wp2
  have fX0 := unhide FX0
  have fX1 := unhide FX1
  exact bodyPost_ret (v := gotR [38] ((i : Int) + 1)) (by simp [results, Tryz.results36, go_sem, gotR, bs, fX0, fX1]) rfl ⟨rfl, (((hb02.setCell (by simp <;> omega) _).setCell (by simp <;> omega) _).setCell (by simp) _).setCell (by simp) _⟩

set_option maxHeartbeats 4000000 in
set_option maxRecDepth 100000 in
theorem ramp_heX_yes (s : ByteArray) (i a1 a2 : Nat) (v : Bool) (x : List UInt8) (m : Int) (w : World) (hs : s.size ≤ 100000) (hi : i < s.size) (h38 : dgt s.data.toList i = 38)
    (CA1 : Hid (∀ w, Calls Tryz.prog 58 #[.string s, .int .i64 ((i : Int) + 1)] w fun e w' => e = .returned (.int .u8 (a1 : Int)) ∧ w' = w))
    (CA2 : Hid (∀ w, Calls Tryz.prog 58 #[.string s, .int .i64 ((i : Int) + 2)] w fun e w' => e = .returned (.int .u8 (a2 : Int)) ∧ w' = w))
    (hN : Hid (∀ w, Calls Tryz.prog 60 #[.string s, .int .i64 ((i : Int) + 3), .int .i64 16] w fun e w' => e = .returned (gotR x m) ∧ Below w.heap.size w w')) (n1 : a1 = 35) (n2 : a2 = 88) (hm : 0 ≤ m) :
    Calls Tryz.prog 36 #[.string s, .int .i64 (i : Int), .bool v] w fun e w' => e = .returned (gotR x m) ∧ Below w.heap.size w w' := by
  have i0 : ¬ (i : Int) < 0 := by omega
  have i1 : (i : Int) < (s.size : Int) := by omega
  have i2 : ¬ (s.size : Int) ≤ (i : Int) := by omega
  have e := dgt_at s i hi
  rw [h38] at e
  unfold gotR at hN
  have hm2 : ¬ m < 0 := by omega
  subst n1
  subst n2
  clear h38
  go_enter Tryz.func36, Tryz.ntmps36
  go_wp2_with fail
  refine (unhide CA1 _).mono ?_
  rintro e1 w1 ⟨rfl, rfl⟩
  go_wp2_with fail
  refine (unhide CA2 _).mono ?_
  rintro e1 w1 ⟨rfl, rfl⟩
  go_wp2_with fail
  refine (unhide CA2 _).mono ?_
  rintro e1 w1 ⟨rfl, rfl⟩
  go_wp2_with fail
  refine (unhide hN _).mono ?_
  rintro e1 w2 ⟨rfl, hb2⟩
  have hz2 : w.heap.size + 2 < w2.heap.size := by have := hb2.size; simp at this; omega
  have hz1 : w.heap.size + 1 < w2.heap.size := by omega
  have hz0 : w.heap.size < w2.heap.size := by omega
  obtain ⟨hc, hf⟩ := bcell hb2
  have hb02 : Below w.heap.size w w2 := ((((Below.refl w.heap.size w).alloc (Nat.le_refl _) _).alloc (by simp) _).alloc (by simp; omega) _).trans (hb2.mono (by simp; omega))
  have fX0 : ∀ X Y, ((w2.setCell ⟨w.heap.size + 1 + 1, 0, none⟩ X).setCell ⟨w.heap.size + 1 + 1, 1, none⟩ Y).cell? ⟨w.heap.size, 0, none⟩ = some (.string ⟨#[]⟩) := fun X Y => by
    rw [cell_far _ _ _ _ _ _ (by omega), cell_far _ _ _ _ _ _ (by omega), hc w.heap.size 0 (by simp <;> omega)]; simp [go_sem]
  have fX1 : ∀ X Y, ((w2.setCell ⟨w.heap.size + 1 + 1, 0, none⟩ X).setCell ⟨w.heap.size + 1 + 1, 1, none⟩ Y).cell? ⟨w.heap.size, 1, none⟩ = some (.int .i64 0) := fun X Y => by
    rw [cell_far _ _ _ _ _ _ (by omega), cell_far _ _ _ _ _ _ (by omega), hc w.heap.size 1 (by simp <;> omega)]; simp [go_sem]
  have FX0 := hide fX0
  have FX1 := hide fX1
  clear fX0 fX1
  go_wp2
  have fX0 := unhide FX0
  have fX1 := unhide FX1
  exact bodyPost_ret (v := gotR x m) (by simp [results, Tryz.results36, go_sem, gotR, bs, fX0, fX1]) rfl ⟨rfl, (((hb02.setCell (by simp <;> omega) _).setCell (by simp <;> omega) _).setCell (by simp) _).setCell (by simp) _⟩

set_option maxHeartbeats 4000000 in
set_option maxRecDepth 100000 in
theorem ramp_heX_no (s : ByteArray) (i a1 a2 : Nat) (v : Bool) (x : List UInt8) (m : Int) (w : World) (hs : s.size ≤ 100000) (hi : i < s.size) (h38 : dgt s.data.toList i = 38)
    (CA1 : Hid (∀ w, Calls Tryz.prog 58 #[.string s, .int .i64 ((i : Int) + 1)] w fun e w' => e = .returned (.int .u8 (a1 : Int)) ∧ w' = w))
    (CA2 : Hid (∀ w, Calls Tryz.prog 58 #[.string s, .int .i64 ((i : Int) + 2)] w fun e w' => e = .returned (.int .u8 (a2 : Int)) ∧ w' = w))
    (hN : Hid (∀ w, Calls Tryz.prog 60 #[.string s, .int .i64 ((i : Int) + 3), .int .i64 16] w fun e w' => e = .returned (gotR x m) ∧ Below w.heap.size w w')) (n1 : a1 = 35) (n2 : a2 = 88) (hm : m < 0) :
    Calls Tryz.prog 36 #[.string s, .int .i64 (i : Int), .bool v] w fun e w' => e = .returned (gotR [38] ((i : Int) + 1)) ∧ Below w.heap.size w w' := by
  have i0 : ¬ (i : Int) < 0 := by omega
  have i1 : (i : Int) < (s.size : Int) := by omega
  have i2 : ¬ (s.size : Int) ≤ (i : Int) := by omega
  have e := dgt_at s i hi
  rw [h38] at e
  unfold gotR at hN
  have hm2 : ¬ 0 ≤ m := by omega
  subst n1
  subst n2
  clear h38
  go_enter Tryz.func36, Tryz.ntmps36
  go_wp2_with fail
  refine (unhide CA1 _).mono ?_
  rintro e1 w1 ⟨rfl, rfl⟩
  go_wp2_with fail
  refine (unhide CA2 _).mono ?_
  rintro e1 w1 ⟨rfl, rfl⟩
  go_wp2_with fail
  refine (unhide CA2 _).mono ?_
  rintro e1 w1 ⟨rfl, rfl⟩
  go_wp2_with fail
  refine (unhide hN _).mono ?_
  rintro e1 w2 ⟨rfl, hb2⟩
  have hz2 : w.heap.size + 2 < w2.heap.size := by have := hb2.size; simp at this; omega
  have hz1 : w.heap.size + 1 < w2.heap.size := by omega
  have hz0 : w.heap.size < w2.heap.size := by omega
  obtain ⟨hc, hf⟩ := bcell hb2
  have hb02 : Below w.heap.size w w2 := ((((Below.refl w.heap.size w).alloc (Nat.le_refl _) _).alloc (by simp) _).alloc (by simp; omega) _).trans (hb2.mono (by simp; omega))
  have fX0 : ∀ X Y, ((w2.setCell ⟨w.heap.size + 1 + 1, 0, none⟩ X).setCell ⟨w.heap.size + 1 + 1, 1, none⟩ Y).cell? ⟨w.heap.size, 0, none⟩ = some (.string ⟨#[]⟩) := fun X Y => by
    rw [cell_far _ _ _ _ _ _ (by omega), cell_far _ _ _ _ _ _ (by omega), hc w.heap.size 0 (by simp <;> omega)]; simp [go_sem]
  have fX1 : ∀ X Y, ((w2.setCell ⟨w.heap.size + 1 + 1, 0, none⟩ X).setCell ⟨w.heap.size + 1 + 1, 1, none⟩ Y).cell? ⟨w.heap.size, 1, none⟩ = some (.int .i64 0) := fun X Y => by
    rw [cell_far _ _ _ _ _ _ (by omega), cell_far _ _ _ _ _ _ (by omega), hc w.heap.size 1 (by simp <;> omega)]; simp [go_sem]
  have FX0 := hide fX0
  have FX1 := hide fX1
  clear fX0 fX1
  go_wp2
  have fX0 := unhide FX0
  have fX1 := unhide FX1
  exact bodyPost_ret (v := gotR [38] ((i : Int) + 1)) (by simp [results, Tryz.results36, go_sem, gotR, bs, fX0, fX1]) rfl ⟨rfl, (((hb02.setCell (by simp <;> omega) _).setCell (by simp <;> omega) _).setCell (by simp) _).setCell (by simp) _⟩

set_option maxHeartbeats 4000000 in
set_option maxRecDepth 100000 in
theorem ramp_ten_yes (s : ByteArray) (i a1 a2 : Nat) (v : Bool) (x : List UInt8) (m : Int) (w : World) (hs : s.size ≤ 100000) (hi : i < s.size) (h38 : dgt s.data.toList i = 38)
    (CA1 : Hid (∀ w, Calls Tryz.prog 58 #[.string s, .int .i64 ((i : Int) + 1)] w fun e w' => e = .returned (.int .u8 (a1 : Int)) ∧ w' = w))
    (CA2 : Hid (∀ w, Calls Tryz.prog 58 #[.string s, .int .i64 ((i : Int) + 2)] w fun e w' => e = .returned (.int .u8 (a2 : Int)) ∧ w' = w))
    (hN : Hid (∀ w, Calls Tryz.prog 60 #[.string s, .int .i64 ((i : Int) + 2), .int .i64 10] w fun e w' => e = .returned (gotR x m) ∧ Below w.heap.size w w')) (n1 : a1 = 35) (n2 : ((a2 : Int) == 120) = false) (n3 : ((a2 : Int) == 88) = false) (hm : 0 ≤ m) :
    Calls Tryz.prog 36 #[.string s, .int .i64 (i : Int), .bool v] w fun e w' => e = .returned (gotR x m) ∧ Below w.heap.size w w' := by
  have i0 : ¬ (i : Int) < 0 := by omega
  have i1 : (i : Int) < (s.size : Int) := by omega
  have i2 : ¬ (s.size : Int) ≤ (i : Int) := by omega
  have e := dgt_at s i hi
  rw [h38] at e
  unfold gotR at hN
  have hm2 : ¬ m < 0 := by omega
  subst n1
  clear h38
  go_enter Tryz.func36, Tryz.ntmps36
  go_wp2_with fail
  refine (unhide CA1 _).mono ?_
  rintro e1 w1 ⟨rfl, rfl⟩
  go_wp2_with fail
  refine (unhide CA2 _).mono ?_
  rintro e1 w1 ⟨rfl, rfl⟩
  go_wp2_with fail
  refine (unhide CA2 _).mono ?_
  rintro e1 w1 ⟨rfl, rfl⟩
  go_wp2_with fail
  refine (unhide hN _).mono ?_
  rintro e1 w2 ⟨rfl, hb2⟩
  have hz2 : w.heap.size + 2 < w2.heap.size := by have := hb2.size; simp at this; omega
  have hz1 : w.heap.size + 1 < w2.heap.size := by omega
  have hz0 : w.heap.size < w2.heap.size := by omega
  obtain ⟨hc, hf⟩ := bcell hb2
  have hb02 : Below w.heap.size w w2 := ((((Below.refl w.heap.size w).alloc (Nat.le_refl _) _).alloc (by simp) _).alloc (by simp; omega) _).trans (hb2.mono (by simp; omega))
  have fX0 : ∀ X Y, ((w2.setCell ⟨w.heap.size + 1 + 1, 0, none⟩ X).setCell ⟨w.heap.size + 1 + 1, 1, none⟩ Y).cell? ⟨w.heap.size, 0, none⟩ = some (.string ⟨#[]⟩) := fun X Y => by
    rw [cell_far _ _ _ _ _ _ (by omega), cell_far _ _ _ _ _ _ (by omega), hc w.heap.size 0 (by simp <;> omega)]; simp [go_sem]
  have fX1 : ∀ X Y, ((w2.setCell ⟨w.heap.size + 1 + 1, 0, none⟩ X).setCell ⟨w.heap.size + 1 + 1, 1, none⟩ Y).cell? ⟨w.heap.size, 1, none⟩ = some (.int .i64 0) := fun X Y => by
    rw [cell_far _ _ _ _ _ _ (by omega), cell_far _ _ _ _ _ _ (by omega), hc w.heap.size 1 (by simp <;> omega)]; simp [go_sem]
  have FX0 := hide fX0
  have FX1 := hide fX1
  clear fX0 fX1
  go_wp2
  have fX0 := unhide FX0
  have fX1 := unhide FX1
  exact bodyPost_ret (v := gotR x m) (by simp [results, Tryz.results36, go_sem, gotR, bs, fX0, fX1]) rfl ⟨rfl, (((hb02.setCell (by simp <;> omega) _).setCell (by simp <;> omega) _).setCell (by simp) _).setCell (by simp) _⟩

set_option maxHeartbeats 4000000 in
set_option maxRecDepth 100000 in
theorem ramp_ten_no (s : ByteArray) (i a1 a2 : Nat) (v : Bool) (x : List UInt8) (m : Int) (w : World) (hs : s.size ≤ 100000) (hi : i < s.size) (h38 : dgt s.data.toList i = 38)
    (CA1 : Hid (∀ w, Calls Tryz.prog 58 #[.string s, .int .i64 ((i : Int) + 1)] w fun e w' => e = .returned (.int .u8 (a1 : Int)) ∧ w' = w))
    (CA2 : Hid (∀ w, Calls Tryz.prog 58 #[.string s, .int .i64 ((i : Int) + 2)] w fun e w' => e = .returned (.int .u8 (a2 : Int)) ∧ w' = w))
    (hN : Hid (∀ w, Calls Tryz.prog 60 #[.string s, .int .i64 ((i : Int) + 2), .int .i64 10] w fun e w' => e = .returned (gotR x m) ∧ Below w.heap.size w w')) (n1 : a1 = 35) (n2 : ((a2 : Int) == 120) = false) (n3 : ((a2 : Int) == 88) = false) (hm : m < 0) :
    Calls Tryz.prog 36 #[.string s, .int .i64 (i : Int), .bool v] w fun e w' => e = .returned (gotR [38] ((i : Int) + 1)) ∧ Below w.heap.size w w' := by
  have i0 : ¬ (i : Int) < 0 := by omega
  have i1 : (i : Int) < (s.size : Int) := by omega
  have i2 : ¬ (s.size : Int) ≤ (i : Int) := by omega
  have e := dgt_at s i hi
  rw [h38] at e
  unfold gotR at hN
  have hm2 : ¬ 0 ≤ m := by omega
  subst n1
  clear h38
  go_enter Tryz.func36, Tryz.ntmps36
  go_wp2_with fail
  refine (unhide CA1 _).mono ?_
  rintro e1 w1 ⟨rfl, rfl⟩
  go_wp2_with fail
  refine (unhide CA2 _).mono ?_
  rintro e1 w1 ⟨rfl, rfl⟩
  go_wp2_with fail
  refine (unhide CA2 _).mono ?_
  rintro e1 w1 ⟨rfl, rfl⟩
  go_wp2_with fail
  refine (unhide hN _).mono ?_
  rintro e1 w2 ⟨rfl, hb2⟩
  have hz2 : w.heap.size + 2 < w2.heap.size := by have := hb2.size; simp at this; omega
  have hz1 : w.heap.size + 1 < w2.heap.size := by omega
  have hz0 : w.heap.size < w2.heap.size := by omega
  obtain ⟨hc, hf⟩ := bcell hb2
  have hb02 : Below w.heap.size w w2 := ((((Below.refl w.heap.size w).alloc (Nat.le_refl _) _).alloc (by simp) _).alloc (by simp; omega) _).trans (hb2.mono (by simp; omega))
  have fX0 : ∀ X Y, ((w2.setCell ⟨w.heap.size + 1 + 1, 0, none⟩ X).setCell ⟨w.heap.size + 1 + 1, 1, none⟩ Y).cell? ⟨w.heap.size, 0, none⟩ = some (.string ⟨#[]⟩) := fun X Y => by
    rw [cell_far _ _ _ _ _ _ (by omega), cell_far _ _ _ _ _ _ (by omega), hc w.heap.size 0 (by simp <;> omega)]; simp [go_sem]
  have fX1 : ∀ X Y, ((w2.setCell ⟨w.heap.size + 1 + 1, 0, none⟩ X).setCell ⟨w.heap.size + 1 + 1, 1, none⟩ Y).cell? ⟨w.heap.size, 1, none⟩ = some (.int .i64 0) := fun X Y => by
    rw [cell_far _ _ _ _ _ _ (by omega), cell_far _ _ _ _ _ _ (by omega), hc w.heap.size 1 (by simp <;> omega)]; simp [go_sem]
  have FX0 := hide fX0
  have FX1 := hide fX1
  clear fX0 fX1
  go_wp2
  have fX0 := unhide FX0
  have fX1 := unhide FX1
  exact bodyPost_ret (v := gotR [38] ((i : Int) + 1)) (by simp [results, Tryz.results36, go_sem, gotR, bs, fX0, fX1]) rfl ⟨rfl, (((hb02.setCell (by simp <;> omega) _).setCell (by simp <;> omega) _).setCell (by simp) _).setCell (by simp) _⟩

end Go.Proofs.YtakjlolmmoladaaGreatDoor

/-
  What the reference's 'At' and 'All' of layer 4 do, told by the plain functions.
-/
namespace Go.Proofs.YtakjlolmmoladaaGreatDoor
open Go.RowKit
set_option linter.unusedVariables false

theorem calls_as {f : Nat} {args : Array Value} {w : World} {x y : Value} (h : Calls Tryz.prog f args w fun e w' => e = .returned x ∧ Below w.heap.size w w') (he : x = y) : Calls Tryz.prog f args w fun e w' => e = .returned y ∧ Below w.heap.size w w' := by
  subst he; exact h
theorem rnumV_0 {l : List UInt8} {i : Nat} {r : Nat × Nat} (h : r.2 = 0) : rnumV l i r = gotR [] (-1) := by
  unfold rnumV rnumL; rw [if_pos h]
theorem rnumV_1 {l : List UInt8} {i : Nat} {r : Nat × Nat} (h : r.2 ≠ 0) : rnumV l i r = gotR (ub (numC (r.1 : Int))) ((i + r.2 + semiN (l.drop (i + r.2)) : Nat) : Int) := by
  unfold rnumV rnumL; rw [if_neg h]

theorem rat4_any (s : ByteArray) (i : Nat) (v : Bool) (w : World) (hs : s.size ≤ 100000) (hi : i < s.size) :
    Calls Tryz.prog 36 #[.string s, .int .i64 (i : Int), .bool v] w fun e w' => e = .returned (rAtV s i v) ∧ Below w.heap.size w w' := by
  by_cases h38 : dgt s.data.toList i = 38
  · have A1 : Hid (∀ w, Calls Tryz.prog 58 #[.string s, .int .i64 ((i : Int) + 1)] w fun e w' => e = .returned (.int .u8 (atB s.data.toList (i + 1) : Int)) ∧ w' = w) := fun w => by
      have := rat_at s (i + 1) w (by omega) (by omega); rw [Int.natCast_add] at this; exact this
    have A2 : Hid (∀ w, Calls Tryz.prog 58 #[.string s, .int .i64 ((i : Int) + 2)] w fun e w' => e = .returned (.int .u8 (atB s.data.toList (i + 2) : Int)) ∧ w' = w) := fun w => by
      have := rat_at s (i + 2) w (by omega) (by omega); rw [Int.natCast_add] at this; exact this
    have d0 : dgt (s.data.toList.drop i) 0 = 38 := by rw [dgt_drop, Nat.add_zero]; exact h38
    have e1 : atB s.data.toList (i + 1) = dgt (s.data.toList.drop i) 1 := atB_drop _ _ _
    have e2 : atB s.data.toList (i + 2) = dgt (s.data.toList.drop i) 2 := atB_drop _ _ _
    by_cases h35 : atB s.data.toList (i + 1) = 35
    · have d1 : dgt (s.data.toList.drop i) 1 = 35 := by rw [← e1]; exact h35
      by_cases hx : dgt (s.data.toList.drop i) 2 = 120 ∨ dgt (s.data.toList.drop i) 2 = 88
      · have hah := at_hash (v := v) d0 d1 (numAt_hex d0 d1 hx) (by omega) (by omega)
        rw [List.drop_drop] at hah
        have C : ∀ w, Calls Tryz.prog 60 #[.string s, .int .i64 ((i : Int) + 3), .int .i64 16] w fun e w' => e = .returned (rnumV s.data.toList (i + 3) (numR 16 0 (s.data.toList.drop (i + 3)))) ∧ Below w.heap.size w w' := fun w => by
          have := rnum_any s (i + 3) 16 w hs (by omega) (by omega) (by omega); rw [Int.natCast_add] at this; exact this
        by_cases hz : (numR 16 0 (s.data.toList.drop (i + 3))).2 = 0
        · rw [rnumV_0 hz] at C
          have hV : gotR [38] ((i : Int) + 1) = rAtV s i v := by unfold rAtV; rw [hah.1 hz]
          rcases hx with hx | hx
          · exact calls_as (ramp_hex_no s i _ _ v _ _ w hs hi h38 A1 A2 (hide C) h35 (by rw [e2]; exact hx) (by omega)) hV
          · exact calls_as (ramp_heX_no s i _ _ v _ _ w hs hi h38 A1 A2 (hide C) h35 (by rw [e2]; exact hx) (by omega)) hV
        · rw [rnumV_1 hz] at C
          have hV : gotR (ub (numC ((numR 16 0 (s.data.toList.drop (i + 3))).1 : Int))) ((i + 3 + (numR 16 0 (s.data.toList.drop (i + 3))).2 + semiN (s.data.toList.drop (i + 3 + (numR 16 0 (s.data.toList.drop (i + 3))).2)) : Nat) : Int) = rAtV s i v := by
            unfold rAtV; rw [hah.2 hz, List.drop_drop]
            simp only []
            rw [show i + (3 + (numR 16 0 (s.data.toList.drop (i + 3))).2) = i + 3 + (numR 16 0 (s.data.toList.drop (i + 3))).2 by omega]
            congr 1; omega
          rcases hx with hx | hx
          · exact calls_as (ramp_hex_yes s i _ _ v _ _ w hs hi h38 A1 A2 (hide C) h35 (by rw [e2]; exact hx) (by omega)) hV
          · exact calls_as (ramp_heX_yes s i _ _ v _ _ w hs hi h38 A1 A2 (hide C) h35 (by rw [e2]; exact hx) (by omega)) hV
      · have hah := at_hash (v := v) d0 d1 (numAt_ten d0 d1 hx) (by omega) (by omega)
        rw [List.drop_drop] at hah
        have C : ∀ w, Calls Tryz.prog 60 #[.string s, .int .i64 ((i : Int) + 2), .int .i64 10] w fun e w' => e = .returned (rnumV s.data.toList (i + 2) (numR 10 0 (s.data.toList.drop (i + 2)))) ∧ Below w.heap.size w w' := fun w => by
          have := rnum_any s (i + 2) 10 w hs (by omega) (by omega) (by omega); rw [Int.natCast_add] at this; exact this
        have n2 : ((atB s.data.toList (i + 2) : Int) == 120) = false := bneI (by omega)
        have n3 : ((atB s.data.toList (i + 2) : Int) == 88) = false := bneI (by omega)
        by_cases hz : (numR 10 0 (s.data.toList.drop (i + 2))).2 = 0
        · rw [rnumV_0 hz] at C
          have hV : gotR [38] ((i : Int) + 1) = rAtV s i v := by unfold rAtV; rw [hah.1 hz]
          exact calls_as (ramp_ten_no s i _ _ v _ _ w hs hi h38 A1 A2 (hide C) h35 n2 n3 (by omega)) hV
        · rw [rnumV_1 hz] at C
          have hV : gotR (ub (numC ((numR 10 0 (s.data.toList.drop (i + 2))).1 : Int))) ((i + 2 + (numR 10 0 (s.data.toList.drop (i + 2))).2 + semiN (s.data.toList.drop (i + 2 + (numR 10 0 (s.data.toList.drop (i + 2))).2)) : Nat) : Int) = rAtV s i v := by
            unfold rAtV; rw [hah.2 hz, List.drop_drop]
            simp only []
            rw [show i + (2 + (numR 10 0 (s.data.toList.drop (i + 2))).2) = i + 2 + (numR 10 0 (s.data.toList.drop (i + 2))).2 by omega]
            congr 1; omega
          exact calls_as (ramp_ten_yes s i _ _ v _ _ w hs hi h38 A1 A2 (hide C) h35 n2 n3 (by omega)) hV
    · have hna := at_named (v := v) d0 (by rw [← e1]; exact h35)
      rw [List.drop_drop] at hna
      have C : ∀ w, Calls Tryz.prog 59 #[.string s, .int .i64 ((i : Int) + 1), .bool v] w fun e w' => e = .returned (refV (i + 1) (refL (s.data.toList.drop (i + 1)) v)) ∧ Below w.heap.size w w' := fun w => by
        have := named_any s (i + 1) v w hs (by omega); rw [Int.natCast_add] at this; exact this
      have n1 : ((atB s.data.toList (i + 1) : Int) == 35) = false := bneI (by omega)
      cases hr : refL (s.data.toList.drop (i + 1)) v with
      | none =>
        rw [hr] at C hna
        have hV : gotR [38] ((i : Int) + 1) = rAtV s i v := by unfold rAtV; rw [hna]
        exact calls_as (ramp_nam_no s i _ _ v [] (-1) w hs hi h38 A1 A2 (hide C) n1 (by omega)) hV
      | some p =>
        obtain ⟨c, n⟩ := p
        rw [hr] at C hna
        have hV : gotR (ub c) (((i + 1 : Nat) : Int) + (n : Int)) = rAtV s i v := by
          unfold rAtV; rw [hna]
          simp only []
          congr 1; omega
        exact calls_as (ramp_nam_yes s i _ _ v (ub c) (((i + 1 : Nat) : Int) + (n : Int)) w hs hi h38 A1 A2 (hide C) n1 (by omega)) hV
  · exact rat_other s i v w hs hi h38

set_option maxHeartbeats 2000000 in
theorem rall_any (s : ByteArray) (v : Bool) (w : World) (hs : s.size ≤ 100000) :
    Calls Tryz.prog 16 #[.string s, .bool v] w fun e w' => e = .returned (.string (bs (allL v s.data.toList))) ∧ Below w.heap.size w w' := by
  go_enter Tryz.func16, Tryz.ntmps16
  go_wp2
  go_loopw [5, 6] (fun o i wr => ∃ (k : Nat) (acc : List UInt8), k ≤ s.size ∧ i = .int .i64 (k : Int) ∧ o = .string (bs acc) ∧ acc.length ≤ 4 * k ∧ allL v s.data.toList = acc ++ allL v (s.data.toList.drop k) ∧ Below w.heap.size w wr) (fun _ i _ => s.size - (intOf i).toNat)
  case atStart => exact ⟨0, [], Nat.zero_le _, rfl, rfl, by simp, rfl, Below.refl _ _⟩
  case round =>
    obtain ⟨k, acc, hk, rfl, rfl, hal, hr, hbw⟩ := hrel
    have HR := hide hr
    have HAL := hide hal
    have hzw := hbw.size
    clear hr
    rw [← bs_size] at hal
    by_cases hp : k < s.size
    · have hpi : (k : Int) < (s.size : Int) := by omega
      have hl : s.data.toList.drop k ≠ [] := by
        intro e
        have := congrArg List.length e
        rw [List.length_drop, data_len] at this; simp at this; omega
      have hbd := at_bd v hl
      have hcn := allL_cons v hl
      rw [List.length_drop, data_len] at hbd
      have CA := hide (fun w => rat4_any s k v w hs hp)
      unfold rAtV gotR at CA
      rw [List.drop_drop] at hcn
      generalize atL (s.data.toList.drop k) v = p at *
      obtain ⟨x, m⟩ := p
      simp only at hbd hcn CA
      obtain ⟨j, hj⟩ : ∃ j : Nat, m = (j : Int) := ⟨m.toNat, by omega⟩
      subst hj
      rw [Int.toNat_natCast] at hcn
      have hj1 : 1 ≤ j := by omega
      have hj2 : k + j ≤ s.size := by omega
      have hxl : (bs x).size ≤ 4 := by rw [bs_size]; omega
      have hxl2 : x.length ≤ 4 := hbd.2.2
      have HCN := hide hcn
      clear hbd hcn hl
      generalize hX : bs acc = X at *
      generalize hY : bs x = Y at *
      have HX := hide hX
      have HY := hide hY
      clear hX hY
      go_wp2_with fail
      refine (unhide CA _).mono ?_
      rintro e w2 ⟨rfl, hb2⟩
      have hb02 := hbw.trans (hb2.mono hzw)
      have hz2 := hb02.size
      go_wp2
      go_roundw
      case rel => exact ⟨k + j, acc ++ x, by omega, by first | rfl | go_num, by rw [← bs_bs, unhide HX, unhide HY], by have := unhide HAL; rw [List.length_append]; omega, by rw [unhide HR, unhide HCN, List.append_assoc], hb02.alloc hz2 _⟩
      case measure => simp [intOf]; omega
    · have hf : allL v s.data.toList = acc := by rw [unhide HR, List.drop_eq_nil_of_le (by rw [data_len]; omega), allL_nil, List.append_nil]
      have HF := hide hf
      clear hf
      go_wp2
      go_ret
      exact ⟨by rw [unhide HF]; rfl, hbw⟩
end Go.Proofs.YtakjlolmmoladaaGreatDoor
