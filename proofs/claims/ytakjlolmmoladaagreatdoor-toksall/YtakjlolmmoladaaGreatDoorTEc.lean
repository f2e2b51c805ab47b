/-
  What 'toks.enclosed' does, on the whole.
-/
import Derived.Test.YtakjlolmmoladaaGreatDoorTDt
namespace Go.Proofs.YtakjlolmmoladaaGreatDoor
open Go.RowKit
set_option linter.unusedVariables false

def encZ (s n : ByteArray) (i : Nat) : Nat := seekN (lastP s n) s.size i
def encX (s n : ByteArray) (kind : Int) (i : Nat) : ByteArray := if kind = 1 then bs (allL false ((s.data.toList.drop i).take (encZ s n i - i))) else s.extract i (encZ s n i)
def encT (s n : ByteArray) (kind : Int) (i : Nat) : PTok := if encZ s n i = i then tagT s i else (3, ⟨#[]⟩, [], false, encX s n kind i)
def encE (s n : ByteArray) (i : Nat) : Nat := if encZ s n i = i then tagE s i else encZ s n i
theorem seek_now {p : Nat → Bool} {n k : Nat} (hk : k < n) (h : seekN p n k = k) : p k = true := by
  cases hp : p k with
  | true => rfl
  | false =>
    have h1 := seek_next p hk hp
    have h2 := (seekN_le p (n := n) (k := k + 1) (by omega)).2
    omega
theorem last_bounds {s n : ByteArray} {i : Nat} (h : lastP s n i = true) : i + 2 < s.size ∧ dgt s.data.toList (i + 1) = 47 := by
  unfold lastP lastB at h
  rw [Bool.and_eq_true, Bool.and_eq_true] at h
  have h1 := List.isPrefixOf_iff_prefix.1 h.1
  have h2 := of_decide_eq_true h.2.1
  simp only [List.length_drop, data_len] at h2
  refine ⟨by omega, ?_⟩
  obtain ⟨r, hr⟩ := h1
  have : dgt (s.data.toList.drop i) 1 = 47 := by rw [← hr]; rfl
  rw [dgt_drop] at this; exact this

set_option maxHeartbeats 4000000 in
set_option maxRecDepth 100000 in
theorem enclosed_tag (s n : ByteArray) (kind : Int) (cd : Bool) (i : Nat) (w : World) (ht : Tab4 w) (hm : Mx w) (hs : s.size ≤ 100000) (hn : n.size ≤ 100000) (hi : i < s.size) (h : encZ s n i = i) :
    Calls Tryz.prog 12 #[.string s, .int .i64 (i : Int), .agg #[.int .i64 kind, .string n, .bool cd]] w (Told w (tagT s i) (tagE s i)) := by
  have HT := hide ht
  have HM := hide hm
  clear ht hm
  have CS := hide (fun w gs gm hg => seek_enc s n i gs gm w hg (by omega) hs hn)
  have hzd : seekN (lastP s n) s.size i = encZ s n i := rfl
  rw [hzd] at CS
  have hz := seekN_le (lastP s n) (n := s.size) (k := i) (by omega)
  rw [hzd] at hz
  have hl := last_bounds (seek_now hi (hzd.trans h))
  have CT := hide (fun w ht hm => tag_any s i w ht hm hs (by omega))
  rw [h] at CS
  generalize tagT s i = t at *
  generalize tagE s i = E at *
  obtain ⟨tk, tn, ta, tf, tx⟩ := t
  clear h hzd hl hz
  have kk0 : Blk (((w.alloc (Obj.cells #[.string s] 9)).alloc (Obj.cells #[.int .i64 kind, .string n, .bool cd] 23)).alloc (Obj.cells #[.int .i64 0, .string ⟨#[]⟩, .slice none 0 0, .bool false, .string ⟨#[]⟩] 27)) w.heap.size #[.string s] 9 := ((Blk.new w _ _).alloc _).alloc _
  have kk1 : Blk (((w.alloc (Obj.cells #[.string s] 9)).alloc (Obj.cells #[.int .i64 kind, .string n, .bool cd] 23)).alloc (Obj.cells #[.int .i64 0, .string ⟨#[]⟩, .slice none 0 0, .bool false, .string ⟨#[]⟩] 27)) (w.heap.size + 1) #[.int .i64 kind, .string n, .bool cd] 23 := by
    have := (Blk.new (w.alloc (Obj.cells #[.string s] 9)) #[.int .i64 kind, .string n, .bool cd] 23).alloc (Obj.cells #[.int .i64 0, .string ⟨#[]⟩, .slice none 0 0, .bool false, .string ⟨#[]⟩] 27)
    simpa using this
  have kk2 : Blk (((w.alloc (Obj.cells #[.string s] 9)).alloc (Obj.cells #[.int .i64 kind, .string n, .bool cd] 23)).alloc (Obj.cells #[.int .i64 0, .string ⟨#[]⟩, .slice none 0 0, .bool false, .string ⟨#[]⟩] 27)) (w.heap.size + 1 + 1) #[.int .i64 0, .string ⟨#[]⟩, .slice none 0 0, .bool false, .string ⟨#[]⟩] 27 := by
    have := Blk.new ((w.alloc (Obj.cells #[.string s] 9)).alloc (Obj.cells #[.int .i64 kind, .string n, .bool cd] 23)) #[.int .i64 0, .string ⟨#[]⟩, .slice none 0 0, .bool false, .string ⟨#[]⟩] 27
    simpa using this
  have hbb : Below w.heap.size w (((w.alloc (Obj.cells #[.string s] 9)).alloc (Obj.cells #[.int .i64 kind, .string n, .bool cd] 23)).alloc (Obj.cells #[.int .i64 0, .string ⟨#[]⟩, .slice none 0 0, .bool false, .string ⟨#[]⟩] 27)) := (((Below.refl w.heap.size w).alloc (Nat.le_refl _) _).alloc (by simp) _).alloc (by simp; omega) _
  go_enter Tryz.func12, Tryz.ntmps12
  go_wp2_with fail
  refine calls_from (fun W => Blk W w.heap.size #[.string s] 9 ∧ Blk W (w.heap.size + 1) #[.int .i64 kind, .string n, .bool cd] 23 ∧ Blk W (w.heap.size + 1 + 1) #[.int .i64 0, .string ⟨#[]⟩, .slice none 0 0, .bool false, .string ⟨#[]⟩] 27 ∧ Below w.heap.size w W) ⟨kk0, kk1, kk2, hbb⟩ ?_
  clear kk0 kk1 kk2 hbb
  rintro W ⟨k0, km, k1, hb⟩
  refine (unhide CS _ _ _ ⟨k0.cell 0, km.cell 1⟩).mono ?_
  rintro e W2 ⟨rfl, hb'⟩
  replace k0 := k0.later hb'
  replace km := km.later hb'
  replace k1 := k1.later hb'
  replace hb := tr2 hb hb'
  clear hb'
  have cs : W2.cell? ⟨w.heap.size, 0, none⟩ = some (.string s) := k0.cell 0
  have cm : W2.cell? ⟨w.heap.size + 1, 0, none⟩ = some (.int .i64 kind) := km.cell 0
  go_wp2_with fail
  refine (unhide CT _ ((unhide HT).below hb) ((unhide HM).below hb)).mono ?_
  rintro e W4 ⟨q, cap, rfl, hsl, hb'⟩
  have hsl2 := hide (hsl.mono (b' := w.heap.size + 1 + 1 + 1) (by have := k1.lt; omega))
  clear hsl
  replace k1 := k1.later hb'
  replace hb := tr2 hb hb'
  clear hb' cs cm k0 km
  have c0 : W4.cell? ⟨w.heap.size + 1 + 1, 0, none⟩ = some (.int .i64 0) := k1.cell 0
  have c1 : W4.cell? ⟨w.heap.size + 1 + 1, 1, none⟩ = some (.string ⟨#[]⟩) := k1.cell 1
  have c2 : W4.cell? ⟨w.heap.size + 1 + 1, 2, none⟩ = some (.slice none 0 0) := k1.cell 2
  have c3 : W4.cell? ⟨w.heap.size + 1 + 1, 3, none⟩ = some (.bool false) := k1.cell 3
  have c4 : W4.cell? ⟨w.heap.size + 1 + 1, 4, none⟩ = some (.string ⟨#[]⟩) := k1.cell 4
  have f0 : W4.frozen? ⟨w.heap.size + 1 + 1, 0, none⟩ = false := k1.frozen 0
  have f1 : W4.frozen? ⟨w.heap.size + 1 + 1, 1, none⟩ = false := k1.frozen 1
  have f2 : W4.frozen? ⟨w.heap.size + 1 + 1, 2, none⟩ = false := k1.frozen 2
  have f3 : W4.frozen? ⟨w.heap.size + 1 + 1, 3, none⟩ = false := k1.frozen 3
  have f4 : W4.frozen? ⟨w.heap.size + 1 + 1, 4, none⟩ = false := k1.frozen 4
  have K1 := hide k1
  clear k1
  go_wp2
  have k1 := (((((unhide K1).set 0 (by simp) (.int .i64 tk)).set 1 (by simp) (.string tn)).set 2 (by simp) (.slice q ta.length cap)).set 3 (by simp) (.bool tf)).set 4 (by simp) (.string tx)
  have d0 := k1.cell 0
  have d1 := k1.cell 1
  have d2 := k1.cell 2
  have d3 := k1.cell 3
  have d4 := k1.cell 4
  exact bodyPost_ret (v := .tuple #[.agg #[.int .i64 tk, .string tn, .slice q ta.length cap, .bool tf, .string tx], .int .i64 (E : Int)]) (by simp [results, Tryz.results12, go_sem, d0, d1, d2, d3, d4]) rfl ⟨q, cap, rfl, ((((((unhide hsl2).away (Nat.lt_succ_self _) _).away (Nat.lt_succ_self _) _).away (Nat.lt_succ_self _) _).away (Nat.lt_succ_self _) _).away (Nat.lt_succ_self _) _).mono (by omega), ((((hb.setCell (by simp; omega) _).setCell (by simp; omega) _).setCell (by simp; omega) _).setCell (by simp; omega) _).setCell (by simp; omega) _⟩

set_option maxHeartbeats 4000000 in
set_option maxRecDepth 100000 in
theorem enclosed_title (s n : ByteArray) (kind : Int) (cd : Bool) (i : Nat) (w : World) (ht : Tab4 w) (hm : Mx w) (hs : s.size ≤ 100000) (hn : n.size ≤ 100000) (hi : i < s.size) (h : ¬ encZ s n i = i) (hk : kind = 1) :
    Calls Tryz.prog 12 #[.string s, .int .i64 (i : Int), .agg #[.int .i64 kind, .string n, .bool cd]] w (Told w (3, ⟨#[]⟩, [], false, encX s n kind i) (encZ s n i)) := by
  have HT := hide ht
  have HM := hide hm
  clear ht hm
  have CS := hide (fun w gs gm hg => seek_enc s n i gs gm w hg (by omega) hs hn)
  have hzd : seekN (lastP s n) s.size i = encZ s n i := rfl
  rw [hzd] at CS
  have hz := seekN_le (lastP s n) (n := s.size) (k := i) (by omega)
  rw [hzd] at hz
  have n1 : ((encZ s n i : Int) == (i : Int)) = false := bneI (by omega)
  have hcx := extract_take s i (encZ s n i - i)
  rw [show i + (encZ s n i - i) = encZ s n i by omega] at hcx
  have hyz : (s.extract i (encZ s n i)).size ≤ 100000 := by simp; omega
  have CA := hide (fun w h => all_any (s.extract i (encZ s n i)) false w h hyz)
  have hyd : (s.extract i (encZ s n i)).data.toList = (s.data.toList.drop i).take (encZ s n i - i) := by rw [hcx, bs_toList]
  rw [hyd] at CA
  have hx : encX s n kind i = bs (allL false ((s.data.toList.drop i).take (encZ s n i - i))) := if_pos hk
  rw [hx]
  generalize bs (allL false ((s.data.toList.drop i).take (encZ s n i - i))) = X at *
  generalize encZ s n i = Z at *
  have z1 : (i : Int) ≤ (Z : Int) := by omega
  have z2 : (Z : Int) ≤ (s.size : Int) := by omega
  subst hk
  clear h hzd hcx hyd hx hz
  have kk0 : Blk (((w.alloc (Obj.cells #[.string s] 9)).alloc (Obj.cells #[.int .i64 1, .string n, .bool cd] 23)).alloc (Obj.cells #[.int .i64 0, .string ⟨#[]⟩, .slice none 0 0, .bool false, .string ⟨#[]⟩] 27)) w.heap.size #[.string s] 9 := ((Blk.new w _ _).alloc _).alloc _
  have kk1 : Blk (((w.alloc (Obj.cells #[.string s] 9)).alloc (Obj.cells #[.int .i64 1, .string n, .bool cd] 23)).alloc (Obj.cells #[.int .i64 0, .string ⟨#[]⟩, .slice none 0 0, .bool false, .string ⟨#[]⟩] 27)) (w.heap.size + 1) #[.int .i64 1, .string n, .bool cd] 23 := by
    have := (Blk.new (w.alloc (Obj.cells #[.string s] 9)) #[.int .i64 1, .string n, .bool cd] 23).alloc (Obj.cells #[.int .i64 0, .string ⟨#[]⟩, .slice none 0 0, .bool false, .string ⟨#[]⟩] 27)
    simpa using this
  have kk2 : Blk (((w.alloc (Obj.cells #[.string s] 9)).alloc (Obj.cells #[.int .i64 1, .string n, .bool cd] 23)).alloc (Obj.cells #[.int .i64 0, .string ⟨#[]⟩, .slice none 0 0, .bool false, .string ⟨#[]⟩] 27)) (w.heap.size + 1 + 1) #[.int .i64 0, .string ⟨#[]⟩, .slice none 0 0, .bool false, .string ⟨#[]⟩] 27 := by
    have := Blk.new ((w.alloc (Obj.cells #[.string s] 9)).alloc (Obj.cells #[.int .i64 1, .string n, .bool cd] 23)) #[.int .i64 0, .string ⟨#[]⟩, .slice none 0 0, .bool false, .string ⟨#[]⟩] 27
    simpa using this
  have hbb : Below w.heap.size w (((w.alloc (Obj.cells #[.string s] 9)).alloc (Obj.cells #[.int .i64 1, .string n, .bool cd] 23)).alloc (Obj.cells #[.int .i64 0, .string ⟨#[]⟩, .slice none 0 0, .bool false, .string ⟨#[]⟩] 27)) := (((Below.refl w.heap.size w).alloc (Nat.le_refl _) _).alloc (by simp) _).alloc (by simp; omega) _
  go_enter Tryz.func12, Tryz.ntmps12
  go_wp2_with fail
  refine calls_from (fun W => Blk W w.heap.size #[.string s] 9 ∧ Blk W (w.heap.size + 1) #[.int .i64 1, .string n, .bool cd] 23 ∧ Blk W (w.heap.size + 1 + 1) #[.int .i64 0, .string ⟨#[]⟩, .slice none 0 0, .bool false, .string ⟨#[]⟩] 27 ∧ Below w.heap.size w W) ⟨kk0, kk1, kk2, hbb⟩ ?_
  clear kk0 kk1 kk2 hbb
  rintro W ⟨k0, km, k1, hb⟩
  refine (unhide CS _ _ _ ⟨k0.cell 0, km.cell 1⟩).mono ?_
  rintro e W2 ⟨rfl, hb'⟩
  replace k0 := k0.later hb'
  replace km := km.later hb'
  replace k1 := k1.later hb'
  replace hb := tr2 hb hb'
  clear hb'
  have cs : W2.cell? ⟨w.heap.size, 0, none⟩ = some (.string s) := k0.cell 0
  have cm : W2.cell? ⟨w.heap.size + 1, 0, none⟩ = some (.int .i64 1) := km.cell 0
  go_wp2_with fail
  refine (unhide CA _ ((unhide HT).below hb)).mono ?_
  rintro e W4 ⟨rfl, hb'⟩
  replace k1 := k1.later hb'
  replace hb := tr2 hb hb'
  clear hb' cs cm k0 km
  have c0 : W4.cell? ⟨w.heap.size + 1 + 1, 0, none⟩ = some (.int .i64 0) := k1.cell 0
  have c1 : W4.cell? ⟨w.heap.size + 1 + 1, 1, none⟩ = some (.string ⟨#[]⟩) := k1.cell 1
  have c2 : W4.cell? ⟨w.heap.size + 1 + 1, 2, none⟩ = some (.slice none 0 0) := k1.cell 2
  have c3 : W4.cell? ⟨w.heap.size + 1 + 1, 3, none⟩ = some (.bool false) := k1.cell 3
  have c4 : W4.cell? ⟨w.heap.size + 1 + 1, 4, none⟩ = some (.string ⟨#[]⟩) := k1.cell 4
  have f0 : W4.frozen? ⟨w.heap.size + 1 + 1, 0, none⟩ = false := k1.frozen 0
  have f1 : W4.frozen? ⟨w.heap.size + 1 + 1, 1, none⟩ = false := k1.frozen 1
  have f2 : W4.frozen? ⟨w.heap.size + 1 + 1, 2, none⟩ = false := k1.frozen 2
  have f3 : W4.frozen? ⟨w.heap.size + 1 + 1, 3, none⟩ = false := k1.frozen 3
  have f4 : W4.frozen? ⟨w.heap.size + 1 + 1, 4, none⟩ = false := k1.frozen 4
  have K1 := hide k1
  clear k1
  go_wp2
  have k1 := (((((unhide K1).set 0 (by simp) (.int .i64 3)).set 1 (by simp) (.string ⟨#[]⟩)).set 2 (by simp) (.slice none 0 0)).set 3 (by simp) (.bool false)).set 4 (by simp) (.string X)
  have d0 := k1.cell 0
  have d1 := k1.cell 1
  have d2 := k1.cell 2
  have d3 := k1.cell 3
  have d4 := k1.cell 4
  exact bodyPost_ret (v := .tuple #[.agg #[.int .i64 3, .string ⟨#[]⟩, .slice none 0 0, .bool false, .string X], .int .i64 (Z : Int)]) (by simp [results, Tryz.results12, go_sem, d0, d1, d2, d3, d4]) rfl ⟨none, 0, rfl, slN_nil _ _ _, ((((hb.setCell (by simp; omega) _).setCell (by simp; omega) _).setCell (by simp; omega) _).setCell (by simp; omega) _).setCell (by simp; omega) _⟩

set_option maxHeartbeats 4000000 in
set_option maxRecDepth 100000 in
theorem enclosed_raw (s n : ByteArray) (kind : Int) (cd : Bool) (i : Nat) (w : World) (ht : Tab4 w) (hm : Mx w) (hs : s.size ≤ 100000) (hn : n.size ≤ 100000) (hi : i < s.size) (h : ¬ encZ s n i = i) (hk : ¬ kind = 1) :
    Calls Tryz.prog 12 #[.string s, .int .i64 (i : Int), .agg #[.int .i64 kind, .string n, .bool cd]] w (Told w (3, ⟨#[]⟩, [], false, encX s n kind i) (encZ s n i)) := by
  have HT := hide ht
  have HM := hide hm
  clear ht hm
  have CS := hide (fun w gs gm hg => seek_enc s n i gs gm w hg (by omega) hs hn)
  have hzd : seekN (lastP s n) s.size i = encZ s n i := rfl
  rw [hzd] at CS
  have hz := seekN_le (lastP s n) (n := s.size) (k := i) (by omega)
  rw [hzd] at hz
  have n1 : ((encZ s n i : Int) == (i : Int)) = false := bneI (by omega)
  have hcx := extract_take s i (encZ s n i - i)
  rw [show i + (encZ s n i - i) = encZ s n i by omega] at hcx
  have hx : encX s n kind i = s.extract i (encZ s n i) := if_neg hk
  rw [hx]
  have nk : (kind == 1) = false := beq_eq_false_iff_ne.2 hk
  generalize encZ s n i = Z at *
  have z1 : (i : Int) ≤ (Z : Int) := by omega
  have z2 : (Z : Int) ≤ (s.size : Int) := by omega
  clear h hzd hcx hx hz hk
  have kk0 : Blk (((w.alloc (Obj.cells #[.string s] 9)).alloc (Obj.cells #[.int .i64 kind, .string n, .bool cd] 23)).alloc (Obj.cells #[.int .i64 0, .string ⟨#[]⟩, .slice none 0 0, .bool false, .string ⟨#[]⟩] 27)) w.heap.size #[.string s] 9 := ((Blk.new w _ _).alloc _).alloc _
  have kk1 : Blk (((w.alloc (Obj.cells #[.string s] 9)).alloc (Obj.cells #[.int .i64 kind, .string n, .bool cd] 23)).alloc (Obj.cells #[.int .i64 0, .string ⟨#[]⟩, .slice none 0 0, .bool false, .string ⟨#[]⟩] 27)) (w.heap.size + 1) #[.int .i64 kind, .string n, .bool cd] 23 := by
    have := (Blk.new (w.alloc (Obj.cells #[.string s] 9)) #[.int .i64 kind, .string n, .bool cd] 23).alloc (Obj.cells #[.int .i64 0, .string ⟨#[]⟩, .slice none 0 0, .bool false, .string ⟨#[]⟩] 27)
    simpa using this
  have kk2 : Blk (((w.alloc (Obj.cells #[.string s] 9)).alloc (Obj.cells #[.int .i64 kind, .string n, .bool cd] 23)).alloc (Obj.cells #[.int .i64 0, .string ⟨#[]⟩, .slice none 0 0, .bool false, .string ⟨#[]⟩] 27)) (w.heap.size + 1 + 1) #[.int .i64 0, .string ⟨#[]⟩, .slice none 0 0, .bool false, .string ⟨#[]⟩] 27 := by
    have := Blk.new ((w.alloc (Obj.cells #[.string s] 9)).alloc (Obj.cells #[.int .i64 kind, .string n, .bool cd] 23)) #[.int .i64 0, .string ⟨#[]⟩, .slice none 0 0, .bool false, .string ⟨#[]⟩] 27
    simpa using this
  have hbb : Below w.heap.size w (((w.alloc (Obj.cells #[.string s] 9)).alloc (Obj.cells #[.int .i64 kind, .string n, .bool cd] 23)).alloc (Obj.cells #[.int .i64 0, .string ⟨#[]⟩, .slice none 0 0, .bool false, .string ⟨#[]⟩] 27)) := (((Below.refl w.heap.size w).alloc (Nat.le_refl _) _).alloc (by simp) _).alloc (by simp; omega) _
  go_enter Tryz.func12, Tryz.ntmps12
  go_wp2_with fail
  refine calls_from (fun W => Blk W w.heap.size #[.string s] 9 ∧ Blk W (w.heap.size + 1) #[.int .i64 kind, .string n, .bool cd] 23 ∧ Blk W (w.heap.size + 1 + 1) #[.int .i64 0, .string ⟨#[]⟩, .slice none 0 0, .bool false, .string ⟨#[]⟩] 27 ∧ Below w.heap.size w W) ⟨kk0, kk1, kk2, hbb⟩ ?_
  clear kk0 kk1 kk2 hbb
  rintro W ⟨k0, km, k1, hb⟩
  refine (unhide CS _ _ _ ⟨k0.cell 0, km.cell 1⟩).mono ?_
  rintro e W2 ⟨rfl, hb'⟩
  replace k0 := k0.later hb'
  replace km := km.later hb'
  replace k1 := k1.later hb'
  replace hb := tr2 hb hb'
  clear hb'
  have cs : W2.cell? ⟨w.heap.size, 0, none⟩ = some (.string s) := k0.cell 0
  have cm : W2.cell? ⟨w.heap.size + 1, 0, none⟩ = some (.int .i64 kind) := km.cell 0
  have c0 : W2.cell? ⟨w.heap.size + 1 + 1, 0, none⟩ = some (.int .i64 0) := k1.cell 0
  have c1 : W2.cell? ⟨w.heap.size + 1 + 1, 1, none⟩ = some (.string ⟨#[]⟩) := k1.cell 1
  have c2 : W2.cell? ⟨w.heap.size + 1 + 1, 2, none⟩ = some (.slice none 0 0) := k1.cell 2
  have c3 : W2.cell? ⟨w.heap.size + 1 + 1, 3, none⟩ = some (.bool false) := k1.cell 3
  have c4 : W2.cell? ⟨w.heap.size + 1 + 1, 4, none⟩ = some (.string ⟨#[]⟩) := k1.cell 4
  have f0 : W2.frozen? ⟨w.heap.size + 1 + 1, 0, none⟩ = false := k1.frozen 0
  have f1 : W2.frozen? ⟨w.heap.size + 1 + 1, 1, none⟩ = false := k1.frozen 1
  have f2 : W2.frozen? ⟨w.heap.size + 1 + 1, 2, none⟩ = false := k1.frozen 2
  have f3 : W2.frozen? ⟨w.heap.size + 1 + 1, 3, none⟩ = false := k1.frozen 3
  have f4 : W2.frozen? ⟨w.heap.size + 1 + 1, 4, none⟩ = false := k1.frozen 4
  have K1 := hide k1
  clear k1 k0 km
  go_wp2
  have k1 := (((((unhide K1).set 0 (by simp) (.int .i64 3)).set 1 (by simp) (.string ⟨#[]⟩)).set 2 (by simp) (.slice none 0 0)).set 3 (by simp) (.bool false)).set 4 (by simp) (.string (s.extract i Z))
  have d0 := k1.cell 0
  have d1 := k1.cell 1
  have d2 := k1.cell 2
  have d3 := k1.cell 3
  have d4 := k1.cell 4
  exact bodyPost_ret (v := .tuple #[.agg #[.int .i64 3, .string ⟨#[]⟩, .slice none 0 0, .bool false, .string (s.extract i Z)], .int .i64 (Z : Int)]) (by simp [results, Tryz.results12, go_sem, d0, d1, d2, d3, d4]) rfl ⟨none, 0, rfl, slN_nil _ _ _, ((((hb.setCell (by simp; omega) _).setCell (by simp; omega) _).setCell (by simp; omega) _).setCell (by simp; omega) _).setCell (by simp; omega) _⟩

theorem enclosed_any (s n : ByteArray) (kind : Int) (cd : Bool) (i : Nat) (w : World) (ht : Tab4 w) (hm : Mx w) (hs : s.size ≤ 100000) (hn : n.size ≤ 100000) (hi : i < s.size) :
    Calls Tryz.prog 12 #[.string s, .int .i64 (i : Int), .agg #[.int .i64 kind, .string n, .bool cd]] w (Told w (encT s n kind i) (encE s n i)) := by
  unfold encT encE
  by_cases h : encZ s n i = i
  · rw [if_pos h, if_pos h]; exact enclosed_tag s n kind cd i w ht hm hs hn hi h
  · rw [if_neg h, if_neg h]
    by_cases hk : kind = 1
    · exact enclosed_title s n kind cd i w ht hm hs hn hi h hk
    · exact enclosed_raw s n kind cd i w ht hm hs hn hi h hk
end Go.Proofs.YtakjlolmmoladaaGreatDoor
