/-
  What 'rectoref02.Is' and 'rectoref02.Bytes' do.
-/
import Derived.Test.YtpfnjgkfombmpaaDoorUPl
namespace Go.Proofs.YtpfnjgkfombmpaaDoor
open Go.RowKit
set_option linter.unusedVariables false

theorem rIs_any (c : Int) (w : World) :
    Calls Tryd.prog 127 #[.int .i64 c] w fun e w' => e = .returned (.bool (isC c)) ∧ w' = w := by
  by_cases h1 : 0 ≤ c
  · by_cases h2 : c ≤ 1114111
    · by_cases h3 : c < 55296
      · rw [isC_mk (by omega)]
        have hd : decide (55296 ≤ c) = false := by simp; omega
        go_enter Tryd.func127, Tryd.ntmps127
        go_wp2
        go_ret
        exact ⟨rfl, rfl⟩
      · have h3' : 55296 ≤ c := by omega
        by_cases h4 : 57343 < c
        · rw [isC_mk (by omega)]
          have hd : decide (c ≤ 57343) = false := by simp; omega
          clear h3
          go_enter Tryd.func127, Tryd.ntmps127
          go_wp2
          go_ret
          exact ⟨rfl, rfl⟩
        · rw [isC_no (by omega)]
          have h4' : c ≤ 57343 := by omega
          clear h3 h4
          go_enter Tryd.func127, Tryd.ntmps127
          go_wp2
          go_ret
          exact ⟨rfl, rfl⟩
    · rw [isC_no (by omega)]
      have h2' : 1114111 < c := by omega
      have hd : decide (c ≤ 1114111) = false := by simp; omega
      clear h2
      go_enter Tryd.func127, Tryd.ntmps127
      go_wp2
      go_ret
      exact ⟨rfl, rfl⟩
  · rw [isC_no (by omega)]
    have h1' : c < 0 := by omega
    have hd : decide (0 ≤ c) = false := by simp; omega
    clear h1
    go_enter Tryd.func127, Tryd.ntmps127
    go_wp2
    go_ret
    exact ⟨rfl, rfl⟩

set_option maxHeartbeats 400000 in
set_option maxRecDepth 100000 in
theorem rbytes_1 (c : Int) (w : World) (hc : isC c = true) (h1 : c < 128) :
    Calls Tryd.prog 128 #[.int .i64 c] w fun e w' => e = .returned (.string (str (ubI c))) ∧ Below w.heap.size w w' := by
  have hr := isC_true hc
  have hp : 0 ≤ c := hr.1
  have hm : c ≤ 1114111 := hr.2.1
  have C0 := hide (rIs_any c)
  rw [hc] at C0
  rw [ubI_1 h1]
  have hcv : Sem.run Tryd.prog (convert 60 9 (Value.slice (some { block := w.heap.size, off := 0 }) 1 1)) (w.alloc (Obj.cells #[.int .u8 (c)] 5)) = .ok (.string (str [c])) (w.alloc (Obj.cells #[.int .u8 (c)] 5)) := convL w w.heap.size [c] rfl
  clear hr hc
  go_enter Tryd.func128, Tryd.ntmps128
  go_wp2_with fail
  refine (unhide C0 _).mono ?_
  rintro e w1 ⟨rfl, rfl⟩
  go_wp2
  go_ret
  exact ⟨rfl, (Below.refl _ _).alloc (Nat.le_refl _) _⟩

set_option maxHeartbeats 400000 in
set_option maxRecDepth 100000 in
theorem rbytes_2 (c : Int) (w : World) (hc : isC c = true) (h0 : 128 ≤ c) (h1 : c < 2048) :
    Calls Tryd.prog 128 #[.int .i64 c] w fun e w' => e = .returned (.string (str (ubI c))) ∧ Below w.heap.size w w' := by
  have hr := isC_true hc
  have hp : 0 ≤ c := hr.1
  have hm : c ≤ 1114111 := hr.2.1
  have C0 := hide (rIs_any c)
  rw [hc] at C0
  rw [ubI_2 h0 h1]
  have hcv : Sem.run Tryd.prog (convert 60 9 (Value.slice (some { block := w.heap.size, off := 0 }) 2 2)) (w.alloc (Obj.cells #[.int .u8 (192 + c / 64), .int .u8 (128 + c % 64)] 5)) = .ok (.string (str [192 + c / 64, 128 + c % 64])) (w.alloc (Obj.cells #[.int .u8 (192 + c / 64), .int .u8 (128 + c % 64)] 5)) := convL w w.heap.size [192 + c / 64, 128 + c % 64] rfl
  clear hr hc
  go_enter Tryd.func128, Tryd.ntmps128
  go_wp2_with fail
  refine (unhide C0 _).mono ?_
  rintro e w1 ⟨rfl, rfl⟩
  go_wp2
  go_ret
  exact ⟨rfl, (Below.refl _ _).alloc (Nat.le_refl _) _⟩

set_option maxHeartbeats 400000 in
set_option maxRecDepth 100000 in
theorem rbytes_3 (c : Int) (w : World) (hc : isC c = true) (h0 : 2048 ≤ c) (h1 : c < 65536) :
    Calls Tryd.prog 128 #[.int .i64 c] w fun e w' => e = .returned (.string (str (ubI c))) ∧ Below w.heap.size w w' := by
  have hr := isC_true hc
  have hp : 0 ≤ c := hr.1
  have hm : c ≤ 1114111 := hr.2.1
  have C0 := hide (rIs_any c)
  rw [hc] at C0
  rw [ubI_3 h0 h1]
  have hcv : Sem.run Tryd.prog (convert 60 9 (Value.slice (some { block := w.heap.size, off := 0 }) 3 3)) (w.alloc (Obj.cells #[.int .u8 (224 + c / 4096), .int .u8 (128 + c / 64 % 64), .int .u8 (128 + c % 64)] 5)) = .ok (.string (str [224 + c / 4096, 128 + c / 64 % 64, 128 + c % 64])) (w.alloc (Obj.cells #[.int .u8 (224 + c / 4096), .int .u8 (128 + c / 64 % 64), .int .u8 (128 + c % 64)] 5)) := convL w w.heap.size [224 + c / 4096, 128 + c / 64 % 64, 128 + c % 64] rfl
  clear hr hc
  go_enter Tryd.func128, Tryd.ntmps128
  go_wp2_with fail
  refine (unhide C0 _).mono ?_
  rintro e w1 ⟨rfl, rfl⟩
  go_wp2
  go_ret
  exact ⟨rfl, (Below.refl _ _).alloc (Nat.le_refl _) _⟩

set_option maxHeartbeats 400000 in
set_option maxRecDepth 100000 in
theorem rbytes_4 (c : Int) (w : World) (hc : isC c = true) (h0 : 65536 ≤ c) :
    Calls Tryd.prog 128 #[.int .i64 c] w fun e w' => e = .returned (.string (str (ubI c))) ∧ Below w.heap.size w w' := by
  have hr := isC_true hc
  have hp : 0 ≤ c := hr.1
  have hm : c ≤ 1114111 := hr.2.1
  have C0 := hide (rIs_any c)
  rw [hc] at C0
  rw [ubI_4 h0]
  have hcv : Sem.run Tryd.prog (convert 60 9 (Value.slice (some { block := w.heap.size, off := 0 }) 4 4)) (w.alloc (Obj.cells #[.int .u8 (240 + c / 262144), .int .u8 (128 + c / 4096 % 64), .int .u8 (128 + c / 64 % 64), .int .u8 (128 + c % 64)] 5)) = .ok (.string (str [240 + c / 262144, 128 + c / 4096 % 64, 128 + c / 64 % 64, 128 + c % 64])) (w.alloc (Obj.cells #[.int .u8 (240 + c / 262144), .int .u8 (128 + c / 4096 % 64), .int .u8 (128 + c / 64 % 64), .int .u8 (128 + c % 64)] 5)) := convL w w.heap.size [240 + c / 262144, 128 + c / 4096 % 64, 128 + c / 64 % 64, 128 + c % 64] rfl
  clear hr hc
  go_enter Tryd.func128, Tryd.ntmps128
  go_wp2_with fail
  refine (unhide C0 _).mono ?_
  rintro e w1 ⟨rfl, rfl⟩
  go_wp2
  go_ret
  exact ⟨rfl, (Below.refl _ _).alloc (Nat.le_refl _) _⟩

theorem rbytes_char (c : Int) (w : World) (hc : isC c = true) :
    Calls Tryd.prog 128 #[.int .i64 c] w fun e w' => e = .returned (.string (str (ubI c))) ∧ Below w.heap.size w w' := by
  rcases sz_cases c with ⟨h, _⟩ | ⟨hl, h, _⟩ | ⟨hl, h, _⟩ | ⟨hl, _⟩
  · exact rbytes_1 c w hc h
  · exact rbytes_2 c w hc hl h
  · exact rbytes_3 c w hc hl h
  · exact rbytes_4 c w hc hl

theorem rbytes_any (c : Int) (w : World) :
    Calls Tryd.prog 128 #[.int .i64 c] w fun e w' => e = .returned (.string (str (utfI c))) ∧ Below w.heap.size w w' := by
  cases hc : isC c with
  | true =>
    rw [utfI, hc, if_pos rfl]
    exact rbytes_char c w hc
  | false =>
    rw [utfI, hc, if_neg (by decide)]
    have C0 := hide (rIs_any c)
    rw [hc] at C0
    have C1 := hide (fun w => rbytes_char 65533 w (by decide))
    clear hc
    go_enter Tryd.func128, Tryd.ntmps128
    go_wp2_with fail
    refine (unhide C0 _).mono ?_
    rintro e w1 ⟨rfl, rfl⟩
    go_wp2_with fail
    refine (unhide C1 _).mono ?_
    rintro e w1 ⟨rfl, hb1⟩
    go_wp2
    go_ret
    exact ⟨rfl, hb1⟩
end Go.Proofs.YtpfnjgkfombmpaaDoor
