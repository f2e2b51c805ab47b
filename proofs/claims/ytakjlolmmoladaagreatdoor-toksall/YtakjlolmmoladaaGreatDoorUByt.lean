/-
  What 'utf.Bytes' does: of every number its bytes, where the two tables hold what their text says.
-/
import Derived.Test.YtakjlolmmoladaaGreatDoorUChr
namespace Go.Proofs.YtakjlolmmoladaaGreatDoor
open Go.RowKit
set_option linter.unusedVariables false

theorem make_1 (w : World) : (Instr.makeSlice 77 (.int .i64 1) (.int .i64 1)).run Tryz.prog w = .ok (.slice (some ⟨w.heap.size, 0, none⟩) 1 1) (w.alloc (.cells #[.int .u8 0] 5)) := by kernel_rfl

theorem make_2 (w : World) : (Instr.makeSlice 77 (.int .i64 2) (.int .i64 2)).run Tryz.prog w = .ok (.slice (some ⟨w.heap.size, 0, none⟩) 2 2) (w.alloc (.cells #[.int .u8 0, .int .u8 0] 5)) := by kernel_rfl

theorem make_3 (w : World) : (Instr.makeSlice 77 (.int .i64 3) (.int .i64 3)).run Tryz.prog w = .ok (.slice (some ⟨w.heap.size, 0, none⟩) 3 3) (w.alloc (.cells #[.int .u8 0, .int .u8 0, .int .u8 0] 5)) := by kernel_rfl

theorem make_4 (w : World) : (Instr.makeSlice 77 (.int .i64 4) (.int .i64 4)).run Tryz.prog w = .ok (.slice (some ⟨w.heap.size, 0, none⟩) 4 4) (w.alloc (.cells #[.int .u8 0, .int .u8 0, .int .u8 0, .int .u8 0] 5)) := by kernel_rfl

theorem ubx_1 {c : Int} (hp : 0 ≤ c) (h1 : c < 128) : [c] = ubI c := by rw [ubI_1 h1]

set_option maxHeartbeats 400000 in
theorem bytes_1 (c : Int) (w : World) (ht : Tabs w) (hc : isC c = true) (h1 : c < 128) :
    Calls Tryz.prog 69 #[.int .i64 c] w fun e w' => e = .returned (.string (str (ubI c))) ∧ Below w.heap.size w w' := by
  have hr := isC_true hc
  obtain ⟨lt0, lt1⟩ := ht.lt
  have HT := hide ht
  obtain ⟨t1, t2, t3, t4, _⟩ := ht
  have hp : 0 ≤ c := hr.1
  have hm : c ≤ 1114111 := hr.2.1
  have C0 := hide (isChar_any c)
  rw [hc] at C0
  have C1 := hide (fun w (h : Tabs w) => size_any c w hp hm h)
  rw [sz_1 h1] at C1
  have E := hide (ubx_1 hp h1)
  have hmk := make_1 w
  have hcv : Sem.run Tryz.prog (convert 77 9 (Value.slice (some { block := w.heap.size, off := 0 }) 1 1)) (w.alloc (Obj.cells #[.int .u8 (c)] 5)) = .ok (.string (str [c])) (w.alloc (Obj.cells #[.int .u8 (c)] 5)) := convL w w.heap.size [c] rfl
  clear hr hc
  go_enter Tryz.func69, Tryz.ntmps69
  go_wp2_with fail
  refine (unhide C0 _).mono ?_
  rintro e w1 ⟨rfl, rfl⟩
  go_wp2_with fail
  refine (unhide C1 _ (unhide HT)).mono ?_
  rintro e w1 ⟨rfl, rfl⟩
  go_wp2
  refine wp_loop_rounds 1 ?_
  rw [rounds_succ]; go_wp2
  go_ret
  exact ⟨ret1 (congrArg (fun l => Value.string (str l)) (unhide E)), (Below.refl _ _).alloc (Nat.le_refl _) _⟩

theorem ubx_2 {c : Int} (hp : 0 ≤ c) (h0 : 128 ≤ c) (h1 : c < 2048) : [192 + c / 64, 128 + c % 64] = ubI c := by
  rw [ubI_2 h0 h1]

set_option maxHeartbeats 400000 in
theorem bytes_2 (c : Int) (w : World) (ht : Tabs w) (hc : isC c = true) (h0 : 128 ≤ c) (h1 : c < 2048) :
    Calls Tryz.prog 69 #[.int .i64 c] w fun e w' => e = .returned (.string (str (ubI c))) ∧ Below w.heap.size w w' := by
  have hr := isC_true hc
  obtain ⟨lt0, lt1⟩ := ht.lt
  have HT := hide ht
  obtain ⟨t1, t2, t3, t4, _⟩ := ht
  have hp : 0 ≤ c := hr.1
  have hm : c ≤ 1114111 := hr.2.1
  have C0 := hide (isChar_any c)
  rw [hc] at C0
  have C1 := hide (fun w (h : Tabs w) => size_any c w hp hm h)
  rw [sz_2 h0 h1] at C1
  have E := hide (ubx_2 hp h0 h1)
  have hmk := make_2 w
  have hcv : Sem.run Tryz.prog (convert 77 9 (Value.slice (some { block := w.heap.size, off := 0 }) 2 2)) (w.alloc (Obj.cells #[.int .u8 (192 + c / 64), .int .u8 (128 + c % 64)] 5)) = .ok (.string (str [192 + c / 64, 128 + c % 64])) (w.alloc (Obj.cells #[.int .u8 (192 + c / 64), .int .u8 (128 + c % 64)] 5)) := convL w w.heap.size [192 + c / 64, 128 + c % 64] rfl
  clear hr hc
  go_enter Tryz.func69, Tryz.ntmps69
  go_wp2_with fail
  refine (unhide C0 _).mono ?_
  rintro e w1 ⟨rfl, rfl⟩
  go_wp2_with fail
  refine (unhide C1 _ (unhide HT)).mono ?_
  rintro e w1 ⟨rfl, rfl⟩
  go_wp2
  refine wp_loop_rounds 2 ?_
  rw [rounds_succ]; go_wp2
  rw [rounds_succ]; go_wp2
  go_ret
  exact ⟨ret1 (congrArg (fun l => Value.string (str l)) (unhide E)), (Below.refl _ _).alloc (Nat.le_refl _) _⟩

theorem ubx_3 {c : Int} (hp : 0 ≤ c) (h0 : 2048 ≤ c) (h1 : c < 65536) : [224 + c / 64 / 64, 128 + c / 64 % 64, 128 + c % 64] = ubI c := by
  rw [ubI_3 h0 h1]
  simp only [List.cons.injEq, and_true]
  omega

set_option maxHeartbeats 400000 in
theorem bytes_3 (c : Int) (w : World) (ht : Tabs w) (hc : isC c = true) (h0 : 2048 ≤ c) (h1 : c < 65536) :
    Calls Tryz.prog 69 #[.int .i64 c] w fun e w' => e = .returned (.string (str (ubI c))) ∧ Below w.heap.size w w' := by
  have hr := isC_true hc
  obtain ⟨lt0, lt1⟩ := ht.lt
  have HT := hide ht
  obtain ⟨t1, t2, t3, t4, _⟩ := ht
  have hp : 0 ≤ c := hr.1
  have hm : c ≤ 1114111 := hr.2.1
  have C0 := hide (isChar_any c)
  rw [hc] at C0
  have C1 := hide (fun w (h : Tabs w) => size_any c w hp hm h)
  rw [sz_3 h0 h1] at C1
  have E := hide (ubx_3 hp h0 h1)
  have hmk := make_3 w
  have hcv : Sem.run Tryz.prog (convert 77 9 (Value.slice (some { block := w.heap.size, off := 0 }) 3 3)) (w.alloc (Obj.cells #[.int .u8 (224 + c / 64 / 64), .int .u8 (128 + c / 64 % 64), .int .u8 (128 + c % 64)] 5)) = .ok (.string (str [224 + c / 64 / 64, 128 + c / 64 % 64, 128 + c % 64])) (w.alloc (Obj.cells #[.int .u8 (224 + c / 64 / 64), .int .u8 (128 + c / 64 % 64), .int .u8 (128 + c % 64)] 5)) := convL w w.heap.size [224 + c / 64 / 64, 128 + c / 64 % 64, 128 + c % 64] rfl
  clear hr hc
  go_enter Tryz.func69, Tryz.ntmps69
  go_wp2_with fail
  refine (unhide C0 _).mono ?_
  rintro e w1 ⟨rfl, rfl⟩
  go_wp2_with fail
  refine (unhide C1 _ (unhide HT)).mono ?_
  rintro e w1 ⟨rfl, rfl⟩
  go_wp2
  refine wp_loop_rounds 3 ?_
  rw [rounds_succ]; go_wp2
  rw [rounds_succ]; go_wp2
  rw [rounds_succ]; go_wp2
  go_ret
  exact ⟨ret1 (congrArg (fun l => Value.string (str l)) (unhide E)), (Below.refl _ _).alloc (Nat.le_refl _) _⟩

theorem ubx_4 {c : Int} (hp : 0 ≤ c) (h0 : 65536 ≤ c) : [240 + c / 64 / 64 / 64, 128 + c / 64 / 64 % 64, 128 + c / 64 % 64, 128 + c % 64] = ubI c := by
  rw [ubI_4 h0]
  simp only [List.cons.injEq, and_true]
  omega

set_option maxHeartbeats 400000 in
theorem bytes_4 (c : Int) (w : World) (ht : Tabs w) (hc : isC c = true) (h0 : 65536 ≤ c) :
    Calls Tryz.prog 69 #[.int .i64 c] w fun e w' => e = .returned (.string (str (ubI c))) ∧ Below w.heap.size w w' := by
  have hr := isC_true hc
  obtain ⟨lt0, lt1⟩ := ht.lt
  have HT := hide ht
  obtain ⟨t1, t2, t3, t4, _⟩ := ht
  have hp : 0 ≤ c := hr.1
  have hm : c ≤ 1114111 := hr.2.1
  have C0 := hide (isChar_any c)
  rw [hc] at C0
  have C1 := hide (fun w (h : Tabs w) => size_any c w hp hm h)
  rw [sz_4 h0] at C1
  have E := hide (ubx_4 hp h0)
  have hmk := make_4 w
  have hcv : Sem.run Tryz.prog (convert 77 9 (Value.slice (some { block := w.heap.size, off := 0 }) 4 4)) (w.alloc (Obj.cells #[.int .u8 (240 + c / 64 / 64 / 64), .int .u8 (128 + c / 64 / 64 % 64), .int .u8 (128 + c / 64 % 64), .int .u8 (128 + c % 64)] 5)) = .ok (.string (str [240 + c / 64 / 64 / 64, 128 + c / 64 / 64 % 64, 128 + c / 64 % 64, 128 + c % 64])) (w.alloc (Obj.cells #[.int .u8 (240 + c / 64 / 64 / 64), .int .u8 (128 + c / 64 / 64 % 64), .int .u8 (128 + c / 64 % 64), .int .u8 (128 + c % 64)] 5)) := convL w w.heap.size [240 + c / 64 / 64 / 64, 128 + c / 64 / 64 % 64, 128 + c / 64 % 64, 128 + c % 64] rfl
  clear hr hc
  go_enter Tryz.func69, Tryz.ntmps69
  go_wp2_with fail
  refine (unhide C0 _).mono ?_
  rintro e w1 ⟨rfl, rfl⟩
  go_wp2_with fail
  refine (unhide C1 _ (unhide HT)).mono ?_
  rintro e w1 ⟨rfl, rfl⟩
  go_wp2
  refine wp_loop_rounds 4 ?_
  rw [rounds_succ]; go_wp2
  rw [rounds_succ]; go_wp2
  rw [rounds_succ]; go_wp2
  rw [rounds_succ]; go_wp2
  go_ret
  exact ⟨ret1 (congrArg (fun l => Value.string (str l)) (unhide E)), (Below.refl _ _).alloc (Nat.le_refl _) _⟩

set_option maxHeartbeats 400000 in
theorem bytes_none (c : Int) (w : World) (ht : Tabs w) (hc : isC c = false) :
    Calls Tryz.prog 69 #[.int .i64 c] w fun e w' => e = .returned (.string (str (ubI 65533))) ∧ Below w.heap.size w w' := by
  obtain ⟨lt0, lt1⟩ := ht.lt
  have HT := hide ht
  obtain ⟨t1, t2, t3, t4, _⟩ := ht
  have C0 := hide (isChar_any c)
  rw [hc] at C0
  have C1 := hide (fun w (h : Tabs w) => size_any 65533 w (by omega) (by omega) h)
  rw [show sz 65533 = 3 from rfl] at C1
  have hmk := make_3 w
  have hcv : Sem.run Tryz.prog (convert 77 9 (Value.slice (some { block := w.heap.size, off := 0 }) 3 3)) (w.alloc (Obj.cells #[.int .u8 239, .int .u8 191, .int .u8 189] 5)) = .ok (.string (str [239, 191, 189])) (w.alloc (Obj.cells #[.int .u8 239, .int .u8 191, .int .u8 189] 5)) := convL w w.heap.size [239, 191, 189] rfl
  clear hc
  go_enter Tryz.func69, Tryz.ntmps69
  go_wp2_with fail
  refine (unhide C0 _).mono ?_
  rintro e w1 ⟨rfl, rfl⟩
  go_wp2_with fail
  refine (unhide C1 _ (unhide HT)).mono ?_
  rintro e w1 ⟨rfl, rfl⟩
  go_wp2
  refine wp_loop_rounds 3 ?_
  rw [rounds_succ]; go_wp2
  rw [rounds_succ]; go_wp2
  rw [rounds_succ]; go_wp2
  go_ret
  exact ⟨rfl, (Below.refl _ _).alloc (Nat.le_refl _) _⟩

theorem bytes_any (c : Int) (w : World) (ht : Tabs w) :
    Calls Tryz.prog 69 #[.int .i64 c] w fun e w' => e = .returned (.string (str (utfI c))) ∧ Below w.heap.size w w' := by
  cases hc : isC c with
  | false =>
    rw [utfI, hc, if_neg (by decide)]
    exact bytes_none c w ht hc
  | true =>
    rw [utfI, hc, if_pos rfl]
    rcases sz_cases c with ⟨h, _⟩ | ⟨hl, h, _⟩ | ⟨hl, h, _⟩ | ⟨hl, _⟩
    · exact bytes_1 c w ht hc h
    · exact bytes_2 c w ht hc hl h
    · exact bytes_3 c w ht hc hl h
    · exact bytes_4 c w ht hc hl
end Go.Proofs.YtakjlolmmoladaaGreatDoor
