/-
  What 'quill.TakeList' does: of every text the list with which it begins and what is behind, as the plain function says it, the list in new memory.
-/
import Derived.Test.YtekkgmgdihlefaaTx
namespace Go.Proofs.Ytekkgmgdihlefaa
open Go.RowKit
set_option linter.unusedVariables false

def takeTs : Nat → List UInt8 → Option (List ByteArray × List UInt8)
  | 0, l => some ([], l)
  | n + 1, l =>
    match takeT l with
    | none => none
    | some (k, m) =>
      match takeTs n ((l.drop k).drop m) with
      | none => none
      | some (ts, r) => some (bs ((l.drop k).take m) :: ts, r)

def takeL (l : List UInt8) : Option (List ByteArray × List UInt8) :=
  match takeN l with
  | none => none
  | some (v, k) => if 1000 < v then none else takeTs v.toNat (l.drop k)

/-- With texts that were read ahead. -/
def ahead (ts : List ByteArray) : Option (List ByteArray × List UInt8) → Option (List ByteArray × List UInt8)
  | none => none
  | some (a, r) => some (ts ++ a, r)

theorem ahead_nil (o : Option (List ByteArray × List UInt8)) : ahead [] o = o := by
  cases o with
  | none => rfl
  | some p => simp [ahead]
theorem ahead_step (ts : List ByteArray) (n : Nat) (l : List UInt8) (k m : Nat) (h : takeT l = some (k, m)) :
    ahead ts (takeTs (n + 1) l) = ahead (ts ++ [bs ((l.drop k).take m)]) (takeTs n ((l.drop k).drop m)) := by
  simp only [takeTs, h]
  cases takeTs n ((l.drop k).drop m) with
  | none => rfl
  | some p => simp [ahead]
theorem ahead_none (ts : List ByteArray) (n : Nat) (l : List UInt8) (h : takeT l = none) : ahead ts (takeTs (n + 1) l) = none := by
  simp only [takeTs, h]; rfl

theorem takeT_some {l : List UInt8} {k m : Nat} (h : takeT l = some (k, m)) : k + m ≤ l.length ∧ 1 ≤ k ∧ m ≤ 65536 := by
  unfold takeT at h
  cases hn : takeN l with
  | none => rw [hn] at h; cases h
  | some x =>
    obtain ⟨v, k'⟩ := x
    rw [hn] at h
    have hb := takeN_some hn
    by_cases hc : 65536 < v ∨ ((l.length - k' : Nat) : Int) < v
    · simp only [hc, if_true] at h; cases h
    · simp only [hc, if_false, Option.some.injEq, Prod.mk.injEq] at h
      omega

theorem ownsRow_below {w w1 : World} {base : Nat} {e : TypeId} {size : Nat} {v : Value} {n : Nat} {xs : List Value} (h : w.ownsRow base e size v n xs) (hb : Below w.heap.size w w1) : w1.ownsRow base e size v n xs := by
  obtain ⟨hl, h⟩ := h
  refine ⟨hl, ?_⟩
  rcases h with h | ⟨g, cap, cur, h1, h2, h3, h4, h5, h6, h7⟩
  · exact .inl h
  · refine .inr ⟨g, cap, cur, h1, h2, ?_, h4, h5, h6, h7⟩
    have hg : g < w.heap.size := by
      rcases Nat.lt_or_ge g w.heap.size with h | h
      · exact h
      · rw [Array.getElem?_eq_none h] at h3; cases h3
    rw [hb.block g hg]; exact h3

theorem Try.info9 : (Try.prog.info? 9).map (fun i => (i.zero, i.size, i.bytes)) = some (some (.string ⟨#[]⟩), 1, 16) := by kernel_rfl

def listErr : Value := .tuple #[.slice none 0 0, .string ⟨#[]⟩, .int .i64 4]

theorem takeList_none (s : ByteArray) (w : World)
    (hcall : Hid (∀ w, Calls Try.prog 17 #[.string s] w fun e w' => e = .returned (.tuple #[.int .i64 0, .string ⟨#[]⟩, .int .i64 4]) ∧ Below w.heap.size w w')) :
    Calls Try.prog 21 #[.string s] w fun e w' => e = .returned listErr ∧ Below w.heap.size w w' := by
  go_enter Try.func21, Try.ntmps21
  go_wp2_with (go_at_call 17; refine (unhide hcall _).mono ?_; rintro e w' ⟨rfl, hb⟩)
  go_ret3
  exact ⟨rfl, hb⟩

theorem takeList_long (s r : ByteArray) (v : Int) (w : World)
    (hcall : Hid (∀ w, Calls Try.prog 17 #[.string s] w fun e w' => e = .returned (.tuple #[.int .i64 v, .string r, .int .i64 0]) ∧ Below w.heap.size w w')) (h : 1000 < v) :
    Calls Try.prog 21 #[.string s] w fun e w' => e = .returned listErr ∧ Below w.heap.size w w' := by
  go_enter Try.func21, Try.ntmps21
  go_wp2_with (go_at_call 17; refine (unhide hcall _).mono ?_; rintro e w' ⟨rfl, hb⟩)
  go_ret3
  exact ⟨rfl, hb⟩

/-- What TakeList leaves, by what the plain function says. -/
def ListPost (w : World) (o : Option (List ByteArray × List UInt8)) (e : Ending) (w' : World) : Prop :=
  match o with
  | none => e = .returned listErr ∧ Below w.heap.size w w'
  | some (ts, r) => ∃ v, e = .returned (.tuple #[v, .string (bs r), .int .i64 0]) ∧ w'.ownsRow w.heap.size 9 1 v ts.length (ts.map Value.string) ∧ Below w.heap.size w w'

set_option maxHeartbeats 1000000 in
theorem takeList_loop (s : ByteArray) (l : List UInt8) (c : Nat) (o : Option (List ByteArray × List UInt8)) (w : World) (hl : l.length ≤ 9223372036854775807) (hc : c ≤ 1000)
    (hcall : Hid (∀ w, Calls Try.prog 17 #[.string s] w fun e w' => e = .returned (.tuple #[.int .i64 c, .string (bs l), .int .i64 0]) ∧ Below w.heap.size w w'))
    (ho : Hid (o = takeTs c l)) :
    Calls Try.prog 21 #[.string s] w fun e w' => ListPost w o e w' := by
  obtain ⟨i0, hi, hz0, hz1, hz2⟩ := info_parts Try.info9
  have hci : (c : Int) ≤ 1000 := by omega
  go_enter Try.func21, Try.ntmps21
  go_wp2_with (go_at_call 17; refine (unhide hcall _).mono ?_; rintro e w0 ⟨rfl, hb0⟩)
  go_loopw [6, 8, 25] (fun t v i wr => ∃ (k : Nat) (ts : List ByteArray) (r : List UInt8), k ≤ c ∧ i = .int .i64 k ∧ t = .string (bs r) ∧ ts.length = k ∧ r.length ≤ 9223372036854775807 ∧
      o = ahead ts (takeTs (c - k) r) ∧ wr.ownsRow w.heap.size 9 1 v ts.length (ts.map Value.string) ∧ Below w.heap.size w wr) (fun _ _ i _ => c - (intOf i).toNat)
  case atStart => exact ⟨0, [], l, Nat.zero_le _, rfl, rfl, rfl, hl, by rw [ahead_nil]; exact unhide ho, World.ownsRow_nil _ _ _ _, hb0⟩
  case round =>
    obtain ⟨k, ts, r, hk, rfl, rfl, hts, hr, hor, hown, hbw⟩ := hrel
    have HT := hide hts
    have HO := hide hor
    clear hts hor
    by_cases hlt : k < c
    · have hlti : (k : Int) < (c : Int) := by omega
      have hcm : c - k = (c - k - 1) + 1 := by omega
      have hta := fun w => takeText_any (bs r) w (by rw [bs_size]; exact hr)
      rw [bs_toList] at hta
      cases ht : takeT r with
      | none =>
        have he : o = none := by rw [unhide HO, hcm]; exact ahead_none ts _ r ht
        have C : Hid (∀ w, Calls Try.prog 19 #[.string (bs r)] w fun e w' => e = .returned (.tuple #[.string ⟨#[]⟩, .string ⟨#[]⟩, .int .i64 4]) ∧ Below w.heap.size w w') :=
          hide (by simpa only [takeTV, ht, textErr] using hta)
        have HE := hide he
        clear he hta ht hcm
        go_wp2_with (go_at_call 19; refine (unhide C _).mono ?_; rintro e w1 ⟨rfl, hb1⟩)
        go_ret3
        rw [unhide HE]
        exact ⟨rfl, hbw.trans (hb1.mono hbw.size)⟩
      | some x =>
        obtain ⟨p, m⟩ := x
        have hb := takeT_some ht
        have he : o = ahead (ts ++ [bs ((r.drop p).take m)]) (takeTs (c - k - 1) ((r.drop p).drop m)) := by rw [unhide HO, hcm]; exact ahead_step ts _ r p m ht
        have C : Hid (∀ w, Calls Try.prog 19 #[.string (bs r)] w fun e w' => e = .returned (.tuple #[.string (bs ((r.drop p).take m)), .string (bs ((r.drop p).drop m)), .int .i64 0]) ∧ Below w.heap.size w w') :=
          hide (by simpa only [takeTV, ht] using hta)
        have HE := hide he
        have hr2 : ((r.drop p).drop m).length ≤ 9223372036854775807 := by simp; omega
        have HR2 := hide hr2
        obtain ⟨x1, hx1⟩ : ∃ x1, x1 = bs ((r.drop p).take m) := ⟨_, rfl⟩
        obtain ⟨x2, hx2⟩ : ∃ x2, x2 = (r.drop p).drop m := ⟨_, rfl⟩
        rw [← hx1, ← hx2] at C HE
        rw [← hx2] at HR2
        clear he hta ht hcm hr2 hx1 hx2
        go_wp2_with (first
          | (go_at_call 19; refine (unhide C _).mono ?_; rintro e w1 ⟨rfl, hb1⟩; have hown1 := ownsRow_below hown hb1)
          | (at_builtin; refine wpList_append_own _ rfl _ _ 22 rfl w.heap.size 9 i0 (.string ⟨#[]⟩) 1 16 Try.underlying22 hi hz0 hz1 hz2 rfl (by decide) _ _ _ rfl (hown1.alloc _) ⟨w1.heap.size, 0, none⟩ 1 1 [.string x1] rfl rfl ?c1 ?c2 ?c3 ?c4 ?c5 ?_))
        case c1 => exact cell_one_new _ _ _
        case c2 => intro u hu; simp at hu; subst hu; rfl
        case c3 => have := unhide HT; unfold maxLen; omega
        case c4 => have := unhide HT; omega
        case c5 => have := hbw.size; have := hb1.size; simp; omega
        intro v' w2 hown' hgrow _
        have hbig : Below w.heap.size w w2 := ((hbw.trans (hb1.mono hbw.size)).alloc (by have := hbw.size; have := hb1.size; omega) _).grown hgrow (by have := hbw.size; have := hb1.size; simp; omega) (fun j hj => (hown.lt j hj).1)
        clear hgrow hown1
        go_wp2
        go_roundw
        case rel => exact ⟨k + 1, ts ++ [x1], x2, by omega, by go_num, rfl, by simp [unhide HT], unhide HR2, by rw [unhide HE]; congr 2, by simpa using hown', hbig⟩
        case measure => simp [intOf]; omega
    · have hkc : k = c := by omega
      have he : o = some (ts, r) := by rw [unhide HO, hkc, Nat.sub_self]; simp [takeTs, ahead]
      have HE := hide he
      clear he hkc
      go_wp2
      go_ret3
      rw [unhide HE]
      exact ⟨_, rfl, hown, hbw⟩
end Go.Proofs.Ytekkgmgdihlefaa
