/-
  Several texts in one: what the functions of the program and of the document's answer do.
-/
import Derived.Test.YtfbgpodcdgmpjaaDoorMgAW
import Derived.Test.YtfbgpodcdgmpjaaDoorMgAY

/-
  What 'utf.Bytes' does: of every number its bytes, where the two tables hold what their text says.
-/
namespace Go.Proofs.YtfbgpodcdgmpjaaDoor
open Go.RowKit
set_option linter.unusedVariables false

theorem make_1 (w : World) : (Instr.makeSlice 73 (.int .i64 1) (.int .i64 1)).run Tryd.prog w = .ok (.slice (some ⟨w.heap.size, 0, none⟩) 1 1) (w.alloc (.cells #[.int .u8 0] 5)) := by kernel_rfl

theorem make_2 (w : World) : (Instr.makeSlice 73 (.int .i64 2) (.int .i64 2)).run Tryd.prog w = .ok (.slice (some ⟨w.heap.size, 0, none⟩) 2 2) (w.alloc (.cells #[.int .u8 0, .int .u8 0] 5)) := by kernel_rfl

theorem make_3 (w : World) : (Instr.makeSlice 73 (.int .i64 3) (.int .i64 3)).run Tryd.prog w = .ok (.slice (some ⟨w.heap.size, 0, none⟩) 3 3) (w.alloc (.cells #[.int .u8 0, .int .u8 0, .int .u8 0] 5)) := by kernel_rfl

theorem make_4 (w : World) : (Instr.makeSlice 73 (.int .i64 4) (.int .i64 4)).run Tryd.prog w = .ok (.slice (some ⟨w.heap.size, 0, none⟩) 4 4) (w.alloc (.cells #[.int .u8 0, .int .u8 0, .int .u8 0, .int .u8 0] 5)) := by kernel_rfl

theorem ubx_1 {c : Int} (hp : 0 ≤ c) (h1 : c < 128) : [c] = ubI c := by rw [ubI_1 h1]

set_option maxHeartbeats 400000 in
theorem bytes_1 (c : Int) (w : World) (ht : Tabs w) (hc : isC c = true) (h1 : c < 128) :
    Calls Tryd.prog 66 #[.int .i64 c] w fun e w' => e = .returned (.string (str (ubI c))) ∧ Below w.heap.size w w' := by
  have hr := isC_true hc
  obtain ⟨lt0, lt1⟩ := ht.lt
  have HT := hide ht
  obtain ⟨t1, t2, t3, t4, _⟩ := ht
  have hp : 0 ≤ c := hr.1
  have hm : c ≤ 1114111 := hr.2.1
  have C0 := hide (isChar_any c)
  rw [hc] at C0
  have C1 := hide (fun w (h : Tabs w) => size_any c w hp hm h)
  rw [sz_1 h1] at C1
  have E := hide (ubx_1 hp h1)
  have hmk := make_1 w
  have hcv : Sem.run Tryd.prog (convert 73 9 (Value.slice (some { block := w.heap.size, off := 0 }) 1 1)) (w.alloc (Obj.cells #[.int .u8 (c)] 5)) = .ok (.string (str [c])) (w.alloc (Obj.cells #[.int .u8 (c)] 5)) := convL w w.heap.size [c] rfl
  clear hr hc
  go_enter Tryd.func66, Tryd.ntmps66
  go_wp2_with fail
  refine (unhide C0 _).mono ?_
  rintro e w1 ⟨rfl, rfl⟩
  go_wp2_with fail
  refine (unhide C1 _ (unhide HT)).mono ?_
  rintro e w1 ⟨rfl, rfl⟩
  go_wp2
  refine wp_loop_rounds 1 ?_
  rw [rounds_succ]; go_wp2
  go_ret
  exact ⟨ret1 (congrArg (fun l => Value.string (str l)) (unhide E)), (Below.refl _ _).alloc (Nat.le_refl _) _⟩

theorem ubx_2 {c : Int} (hp : 0 ≤ c) (h0 : 128 ≤ c) (h1 : c < 2048) : [192 + c / 64, 128 + c % 64] = ubI c := by
  rw [ubI_2 h0 h1]

set_option maxHeartbeats 400000 in
theorem bytes_2 (c : Int) (w : World) (ht : Tabs w) (hc : isC c = true) (h0 : 128 ≤ c) (h1 : c < 2048) :
    Calls Tryd.prog 66 #[.int .i64 c] w fun e w' => e = .returned (.string (str (ubI c))) ∧ Below w.heap.size w w' := by
  have hr := isC_true hc
  obtain ⟨lt0, lt1⟩ := ht.lt
  have HT := hide ht
  obtain ⟨t1, t2, t3, t4, _⟩ := ht
  have hp : 0 ≤ c := hr.1
  have hm : c ≤ 1114111 := hr.2.1
  have C0 := hide (isChar_any c)
  rw [hc] at C0
  have C1 := hide (fun w (h : Tabs w) => size_any c w hp hm h)
  rw [sz_2 h0 h1] at C1
  have E := hide (ubx_2 hp h0 h1)
  have hmk := make_2 w
  have hcv : Sem.run Tryd.prog (convert 73 9 (Value.slice (some { block := w.heap.size, off := 0 }) 2 2)) (w.alloc (Obj.cells #[.int .u8 (192 + c / 64), .int .u8 (128 + c % 64)] 5)) = .ok (.string (str [192 + c / 64, 128 + c % 64])) (w.alloc (Obj.cells #[.int .u8 (192 + c / 64), .int .u8 (128 + c % 64)] 5)) := convL w w.heap.size [192 + c / 64, 128 + c % 64] rfl
  clear hr hc
  go_enter Tryd.func66, Tryd.ntmps66
  go_wp2_with fail
  refine (unhide C0 _).mono ?_
  rintro e w1 ⟨rfl, rfl⟩
  go_wp2_with fail
  refine (unhide C1 _ (unhide HT)).mono ?_
  rintro e w1 ⟨rfl, rfl⟩
  go_wp2
  refine wp_loop_rounds 2 ?_
  rw [rounds_succ]; go_wp2
  rw [rounds_succ]; go_wp2
  go_ret
  exact ⟨ret1 (congrArg (fun l => Value.string (str l)) (unhide E)), (Below.refl _ _).alloc (Nat.le_refl _) _⟩

theorem ubx_3 {c : Int} (hp : 0 ≤ c) (h0 : 2048 ≤ c) (h1 : c < 65536) : [224 + c / 64 / 64, 128 + c / 64 % 64, 128 + c % 64] = ubI c := by
  rw [ubI_3 h0 h1]
  simp only [List.cons.injEq, and_true]
  omega

set_option maxHeartbeats 400000 in
theorem bytes_3 (c : Int) (w : World) (ht : Tabs w) (hc : isC c = true) (h0 : 2048 ≤ c) (h1 : c < 65536) :
    Calls Tryd.prog 66 #[.int .i64 c] w fun e w' => e = .returned (.string (str (ubI c))) ∧ Below w.heap.size w w' := by
  have hr := isC_true hc
  obtain ⟨lt0, lt1⟩ := ht.lt
  have HT := hide ht
  obtain ⟨t1, t2, t3, t4, _⟩ := ht
  have hp : 0 ≤ c := hr.1
  have hm : c ≤ 1114111 := hr.2.1
  have C0 := hide (isChar_any c)
  rw [hc] at C0
  have C1 := hide (fun w (h : Tabs w) => size_any c w hp hm h)
  rw [sz_3 h0 h1] at C1
  have E := hide (ubx_3 hp h0 h1)
  have hmk := make_3 w
  have hcv : Sem.run Tryd.prog (convert 73 9 (Value.slice (some { block := w.heap.size, off := 0 }) 3 3)) (w.alloc (Obj.cells #[.int .u8 (224 + c / 64 / 64), .int .u8 (128 + c / 64 % 64), .int .u8 (128 + c % 64)] 5)) = .ok (.string (str [224 + c / 64 / 64, 128 + c / 64 % 64, 128 + c % 64])) (w.alloc (Obj.cells #[.int .u8 (224 + c / 64 / 64), .int .u8 (128 + c / 64 % 64), .int .u8 (128 + c % 64)] 5)) := convL w w.heap.size [224 + c / 64 / 64, 128 + c / 64 % 64, 128 + c % 64] rfl
  clear hr hc
  go_enter Tryd.func66, Tryd.ntmps66
  go_wp2_with fail
  refine (unhide C0 _).mono ?_
  rintro e w1 ⟨rfl, rfl⟩
  go_wp2_with fail
  refine (unhide C1 _ (unhide HT)).mono ?_
  rintro e w1 ⟨rfl, rfl⟩
  go_wp2
  refine wp_loop_rounds 3 ?_
  rw [rounds_succ]; go_wp2
  rw [rounds_succ]; go_wp2
  rw [rounds_succ]; go_wp2
  go_ret
  exact ⟨ret1 (congrArg (fun l => Value.string (str l)) (unhide E)), (Below.refl _ _).alloc (Nat.le_refl _) _⟩

theorem ubx_4 {c : Int} (hp : 0 ≤ c) (h0 : 65536 ≤ c) : [240 + c / 64 / 64 / 64, 128 + c / 64 / 64 % 64, 128 + c / 64 % 64, 128 + c % 64] = ubI c := by
  rw [ubI_4 h0]
  simp only [List.cons.injEq, and_true]
  omega

set_option maxHeartbeats 400000 in
theorem bytes_4 (c : Int) (w : World) (ht : Tabs w) (hc : isC c = true) (h0 : 65536 ≤ c) :
    Calls Tryd.prog 66 #[.int .i64 c] w fun e w' => e = .returned (.string (str (ubI c))) ∧ Below w.heap.size w w' := by
  have hr := isC_true hc
  obtain ⟨lt0, lt1⟩ := ht.lt
  have HT := hide ht
  obtain ⟨t1, t2, t3, t4, _⟩ := ht
  have hp : 0 ≤ c := hr.1
  have hm : c ≤ 1114111 := hr.2.1
  have C0 := hide (isChar_any c)
  rw [hc] at C0
  have C1 := hide (fun w (h : Tabs w) => size_any c w hp hm h)
  rw [sz_4 h0] at C1
  have E := hide (ubx_4 hp h0)
  have hmk := make_4 w
  have hcv : Sem.run Tryd.prog (convert 73 9 (Value.slice (some { block := w.heap.size, off := 0 }) 4 4)) (w.alloc (Obj.cells #[.int .u8 (240 + c / 64 / 64 / 64), .int .u8 (128 + c / 64 / 64 % 64), .int .u8 (128 + c / 64 % 64), .int .u8 (128 + c % 64)] 5)) = .ok (.string (str [240 + c / 64 / 64 / 64, 128 + c / 64 / 64 % 64, 128 + c / 64 % 64, 128 + c % 64])) (w.alloc (Obj.cells #[.int .u8 (240 + c / 64 / 64 / 64), .int .u8 (128 + c / 64 / 64 % 64), .int .u8 (128 + c / 64 % 64), .int .u8 (128 + c % 64)] 5)) := convL w w.heap.size [240 + c / 64 / 64 / 64, 128 + c / 64 / 64 % 64, 128 + c / 64 % 64, 128 + c % 64] rfl
  clear hr hc
  go_enter Tryd.func66, Tryd.ntmps66
  go_wp2_with fail
  refine (unhide C0 _).mono ?_
  rintro e w1 ⟨rfl, rfl⟩
  go_wp2_with fail
  refine (unhide C1 _ (unhide HT)).mono ?_
  rintro e w1 ⟨rfl, rfl⟩
  go_wp2
  refine wp_loop_rounds 4 ?_
  rw [rounds_succ]; go_wp2
  rw [rounds_succ]; go_wp2
  rw [rounds_succ]; go_wp2
  rw [rounds_succ]; go_wp2
  go_ret
  exact ⟨ret1 (congrArg (fun l => Value.string (str l)) (unhide E)), (Below.refl _ _).alloc (Nat.le_refl _) _⟩

set_option maxHeartbeats 400000 in
theorem bytes_none (c : Int) (w : World) (ht : Tabs w) (hc : isC c = false) :
    Calls Tryd.prog 66 #[.int .i64 c] w fun e w' => e = .returned (.string (str (ubI 65533))) ∧ Below w.heap.size w w' := by
  obtain ⟨lt0, lt1⟩ := ht.lt
  have HT := hide ht
  obtain ⟨t1, t2, t3, t4, _⟩ := ht
  have C0 := hide (isChar_any c)
  rw [hc] at C0
  have C1 := hide (fun w (h : Tabs w) => size_any 65533 w (by omega) (by omega) h)
  rw [show sz 65533 = 3 from rfl] at C1
  have hmk := make_3 w
  have hcv : Sem.run Tryd.prog (convert 73 9 (Value.slice (some { block := w.heap.size, off := 0 }) 3 3)) (w.alloc (Obj.cells #[.int .u8 239, .int .u8 191, .int .u8 189] 5)) = .ok (.string (str [239, 191, 189])) (w.alloc (Obj.cells #[.int .u8 239, .int .u8 191, .int .u8 189] 5)) := convL w w.heap.size [239, 191, 189] rfl
  clear hc
  go_enter Tryd.func66, Tryd.ntmps66
  go_wp2_with fail
  refine (unhide C0 _).mono ?_
  rintro e w1 ⟨rfl, rfl⟩
  go_wp2_with fail
  refine (unhide C1 _ (unhide HT)).mono ?_
  rintro e w1 ⟨rfl, rfl⟩
  go_wp2
  refine wp_loop_rounds 3 ?_
  rw [rounds_succ]; go_wp2
  rw [rounds_succ]; go_wp2
  rw [rounds_succ]; go_wp2
  go_ret
  exact ⟨rfl, (Below.refl _ _).alloc (Nat.le_refl _) _⟩

theorem bytes_any (c : Int) (w : World) (ht : Tabs w) :
    Calls Tryd.prog 66 #[.int .i64 c] w fun e w' => e = .returned (.string (str (utfI c))) ∧ Below w.heap.size w w' := by
  cases hc : isC c with
  | false =>
    rw [utfI, hc, if_neg (by decide)]
    exact bytes_none c w ht hc
  | true =>
    rw [utfI, hc, if_pos rfl]
    rcases sz_cases c with ⟨h, _⟩ | ⟨hl, h, _⟩ | ⟨hl, h, _⟩ | ⟨hl, _⟩
    · exact bytes_1 c w ht hc h
    · exact bytes_2 c w ht hc hl h
    · exact bytes_3 c w ht hc hl h
    · exact bytes_4 c w ht hc hl
end Go.Proofs.YtfbgpodcdgmpjaaDoor

/-
  What 'refs.At' does: what stands at a place of a text, and the place behind it.
-/
namespace Go.Proofs.YtfbgpodcdgmpjaaDoor
open Go.RowKit
set_option linter.unusedVariables false

/-- What stands at the beginning of a text that isn't empty, and how many bytes it has; the longest name's character and bytes are handed in. -/
def atWith (l : List UInt8) (c : Int) (n : Nat) : List UInt8 × Int :=
  if ¬ dgt l 0 = 38 then (ub (step l).1, ((step l).2.1 : Int))
  else if 0 < (numAt l).2 then (ub (numC (numAt l).1), (numAt l).2)
  else if 0 < n then (ub c, (n : Int)) else ([38], 1)
/-- Some character and some number of bytes are the longest name's, and the answer is of these. -/
def AtIs (l : List UInt8) (v : Bool) (x : List UInt8) (m : Int) : Prop := ∃ c n, BF (l.drop 1) v 28 c n ∧ atWith l c n = (x, m)

theorem best_ex (m : List UInt8) (v : Bool) : ∀ k, ∃ c n, BF m v k c n
  | 0 => ⟨0, 0, .inl ⟨rfl, rfl, fun j hj => by omega⟩, rfl⟩
  | k + 1 => by
    obtain ⟨c, n, h⟩ := best_ex m v k
    by_cases hn : n < candN k m v
    · exact ⟨_, _, bf_more h hn⟩
    · exact ⟨_, _, bf_same h hn⟩
theorem numG_len (base : Nat) : ∀ (l : List UInt8) (n : Nat), (numG base n l).2 ≤ l.length
  | [], n => by simp [numG]
  | c :: l, n => by
    rw [numG]
    split
    · have := numG_len base l (min (n * base + (digV c.toNat).toNat) 1114112); simp; omega
    · simp
theorem numAt_le (l : List UInt8) : (numAt l).2 ≤ l.length + 4 := by
  unfold numAt
  split
  · split
    · have h1 := numG_len 16 (l.drop 3) 0
      have h2 := semi_le (l.drop (3 + (numG 16 0 (l.drop 3)).2))
      rw [List.length_drop] at h1
      unfold numEnd; split
      · simp; omega
      · simp only []; omega
    · have h1 := numG_len 10 (l.drop 2) 0
      have h2 := semi_le (l.drop (2 + (numG 10 0 (l.drop 2)).2))
      rw [List.length_drop] at h1
      unfold numEnd; split
      · simp; omega
      · simp only []; omega
  · simp; omega
theorem best_isC {m : List UInt8} {v : Bool} {c : Int} {n : Nat} (h : BF m v 28 c n) (hn : 0 < n) : isC c = true := by
  rcases h.1 with ⟨h1, _⟩ | ⟨_, i, hi, _, hc, _⟩
  · omega
  · rw [hc]; exact (nm_facts i hi).2.2.2.2
theorem bytesC (c : Int) (w : World) (ht : Tabs w) (h : isC c = true) : Calls Tryd.prog 66 #[.int .i64 c] w fun e w' => e = .returned (.string (bs (ub c))) ∧ Below w.heap.size w w' := by
  have := bytes_any c w ht
  rw [utfI, h, if_pos rfl] at this
  exact this

def atL (l : List UInt8) (v : Bool) : List UInt8 × Int := atWith l (bestF (l.drop 1) v 28).1 (bestF (l.drop 1) v 28).2
theorem atIs_eq {l : List UInt8} {v : Bool} {x : List UInt8} {m : Int} (h : AtIs l v x m) : atL l v = (x, m) := by
  obtain ⟨c, n, hb, h⟩ := h
  rw [atL, hb.2]; exact h
/-! ### how far it goes -/
theorem pre_len {a b : List UInt8} (h : a.isPrefixOf b = true) : a.length ≤ b.length := (List.isPrefixOf_iff_prefix.1 h).length_le
theorem semi_len (l : List UInt8) : semiN l ≤ l.length := by
  unfold semiN
  split
  · rename_i h; have := pre_len h; simpa using this
  · omega
theorem cand_len (k : Nat) (m : List UInt8) (v : Bool) : candN k m v ≤ m.length + 1 := by
  unfold candN
  split
  · rename_i h
    have h1 := pre_len h
    split
    · rename_i h2
      have h3 := semi_len (m.drop (nmName k).length)
      rw [List.length_drop] at h3; omega
    · split <;> omega
  · omega
theorem numAt_len (l : List UInt8) : (numAt l).2 ≤ l.length := by
  unfold numAt
  split
  · rename_i hp
    have hl := pre_len hp
    simp at hl
    split
    · rename_i hx
      have hx' : 2 < l.length ∧ (dgt l 2 = 120 ∨ dgt l 2 = 88) := by simpa [isHex] using hx
      have h1 := numG_len 16 (l.drop 3) 0
      have h2 := semi_len (l.drop (3 + (numG 16 0 (l.drop 3)).2))
      rw [List.length_drop] at h1 h2
      unfold numEnd; split
      · simp
      · simp only []; omega
    · have h1 := numG_len 10 (l.drop 2) 0
      have h2 := semi_len (l.drop (2 + (numG 10 0 (l.drop 2)).2))
      rw [List.length_drop] at h1 h2
      unfold numEnd; split
      · simp
      · simp only []; omega
  · simp
theorem at_bd {l : List UInt8} (v : Bool) (h : l ≠ []) : 1 ≤ (atL l v).2 ∧ (atL l v).2 ≤ l.length ∧ (atL l v).1.length ≤ 4 := by
  have hok := step_ok h
  have hl : 0 < l.length := List.length_pos_iff.2 h
  obtain ⟨c, n, hb⟩ := best_ex (l.drop 1) v 28
  rw [atL, hb.2]
  have hn : n ≤ l.length := by
    rcases hb.1 with ⟨h1, _⟩ | ⟨_, i, hi, hc, _⟩
    · omega
    · have := cand_len i (l.drop 1) v; rw [List.length_drop] at this; omega
  unfold atWith
  split
  · have := sz_le (step l).1
    simp only []; rw [ub_len]; omega
  · split
    · have := numAt_len l
      have := sz_le (numC (numAt l).1)
      simp only []; rw [ub_len]; omega
    · split
      · have := sz_le c
        simp only []; rw [ub_len]; omega
      · simp; omega
theorem at_ne {l : List UInt8} (v : Bool) (h : l ≠ []) : (atL l v).1 ≠ [] := by
  rw [atL]; unfold atWith
  have hu : ∀ c, ub c ≠ [] := fun c => by have := ub_ne c []; simpa using this
  split
  · exact hu _
  · split
    · exact hu _
    · split
      · exact hu _
      · simp

def allF (v : Bool) : Nat → List UInt8 → List UInt8
  | 0, _ => []
  | f + 1, l => if l = [] then [] else (atL l v).1 ++ allF v f (l.drop (atL l v).2.toNat)
def allL (v : Bool) (l : List UInt8) : List UInt8 := allF v l.length l
theorem allF_fuel (v : Bool) : ∀ (f g : Nat) (l : List UInt8), l.length ≤ f → l.length ≤ g → allF v f l = allF v g l
  | 0, 0, l, _, _ => rfl
  | 0, g + 1, l, h, _ => by
    have : l = [] := List.eq_nil_of_length_eq_zero (by omega)
    subst this; simp [allF]
  | f + 1, 0, l, _, h => by
    have : l = [] := List.eq_nil_of_length_eq_zero (by omega)
    subst this; simp [allF]
  | f + 1, g + 1, l, h1, h2 => by
    rw [allF, allF]
    by_cases e : l = []
    · rw [if_pos e, if_pos e]
    · have hb := at_bd v e
      rw [if_neg e, if_neg e, allF_fuel v f g _ (by rw [List.length_drop]; omega) (by rw [List.length_drop]; omega)]
theorem allL_nil (v : Bool) : allL v [] = [] := rfl
theorem allL_cons (v : Bool) {l : List UInt8} (h : l ≠ []) : allL v l = (atL l v).1 ++ allL v (l.drop (atL l v).2.toNat) := by
  have hb := at_bd v h
  have hl : 0 < l.length := List.length_pos_iff.2 h
  rw [allL, show l.length = (l.length - 1) + 1 from by omega, allF, if_neg h, allL]
  congr 1
  exact allF_fuel v _ _ _ (by rw [List.length_drop]; omega) (Nat.le_refl _)
end Go.Proofs.YtfbgpodcdgmpjaaDoor
