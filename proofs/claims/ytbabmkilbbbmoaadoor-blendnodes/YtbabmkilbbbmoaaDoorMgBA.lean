/-
  Several texts in one: what the functions of the program and of the document's answer do.
-/
import Derived.Test.YtbabmkilbbbmoaaDoorMgAZ
import Derived.Test.YtbabmkilbbbmoaaDoorMgAX
import Derived.Deep.RegionHeld

/-
  What 'rectoref01.Plain' does.
-/
namespace Go.Proofs.YtbabmkilbbbmoaaDoor
open Go.RowKit
set_option linter.unusedVariables false

theorem conv1 (w : World) (n : Nat) (c : Int) (h : n = w.heap.size) :
    Sem.run Tryd.prog (convert 120 9 (Value.slice (some { block := n, off := 0 }) 1 1)) (w.alloc (Obj.cells #[.int .u8 c] 5)) = .ok (.string (str [c])) (w.alloc (Obj.cells #[.int .u8 c] 5)) := by
  subst h
  refine run_convert_bytes_arg (P := Tryd.prog) _ 120 5 Tryd.underlying120 Tryd.underlying5 w.heap.size 0 1 1 [c] rfl ?_ 9 Tryd.underlying9
  intro i hi
  have : i = 0 := by omega
  subst this
  rw [World.cell?_alloc_mark]; rfl
theorem str_add (a b : List Int) : str a ++ str b = str (a ++ b) := by
  apply ByteArray.ext
  simp [str, strOfNums]
theorem str_none (a : ByteArray) : a ++ (⟨#[]⟩ : ByteArray) = a := by
  apply ByteArray.ext
  simp

end Go.Proofs.YtbabmkilbbbmoaaDoor

/-
  The reference's text, Long, node, Plain and Bytes of the tree (made by mk_yrp.py).
-/
namespace Go.Proofs.YtbabmkilbbbmoaaDoor
open Go.RowKit
set_option linter.unusedVariables false
set_option linter.unusedSimpArgs false

/-! ### Long -/
/-! ### node -/
def NdS (w0 : World) (R : Nat) (k sp : Int) (n : ByteArray) (qa : Option Addr) (al ca : Nat) (tx : ByteArray) (qk : Option Addr) (kl ck : Nat) (w : World) : Prop :=
  w.cell? ⟨R, 1, none⟩ = some (.int .i64 sp) ∧ w.cell? ⟨R, 2, none⟩ = some (.string n) ∧ w.cell? ⟨R, 3, none⟩ = some (.slice qa al ca) ∧ Blk w R #[.int .i64 k, .int .i64 sp, .string n, .slice qa al ca, .string tx, .slice qk kl ck] 44 ∧ Below w0.heap.size w0 w
theorem NdS.mk {w0 w : World} {R : Nat} {k sp : Int} {n : ByteArray} {qa : Option Addr} {al ca : Nat} {tx : ByteArray} {qk : Option Addr} {kl ck : Nat} (h : Blk w R #[.int .i64 k, .int .i64 sp, .string n, .slice qa al ca, .string tx, .slice qk kl ck] 44) (hb : Below w0.heap.size w0 w) : NdS w0 R k sp n qa al ca tx qk kl ck w := ⟨h.cell 1, h.cell 2, h.cell 3, h, hb⟩
theorem NdS.below {w0 w w' : World} {R : Nat} {k sp : Int} {n : ByteArray} {qa : Option Addr} {al ca : Nat} {tx : ByteArray} {qk : Option Addr} {kl ck : Nat} (h : NdS w0 R k sp n qa al ca tx qk kl ck w) (hb : Below w.heap.size w w') : NdS w0 R k sp n qa al ca tx qk kl ck w' := NdS.mk (Blk.later h.2.2.2.1 hb) (tr2 h.2.2.2.2 hb)
def AtS (w0 : World) (R : Nat) (k sp : Int) (n : ByteArray) (qa : Option Addr) (al ca : Nat) (tx : ByteArray) (qk : Option Addr) (kl ck : Nat) (H : Nat) (ya yb : ByteArray) (w : World) : Prop :=
  w.cell? ⟨H, 0, none⟩ = some (.string ya) ∧ w.cell? ⟨H, 1, none⟩ = some (.string yb) ∧ NdS w0 R k sp n qa al ca tx qk kl ck w
theorem AtS.below {w0 w w' : World} {R : Nat} {k sp : Int} {n : ByteArray} {qa : Option Addr} {al ca : Nat} {tx : ByteArray} {qk : Option Addr} {kl ck : Nat} {H : Nat} {ya yb : ByteArray} (h : AtS w0 R k sp n qa al ca tx qk kl ck H ya yb w) (hb : Below w.heap.size w w') : AtS w0 R k sp n qa al ca tx qk kl ck H ya yb w' := ⟨cell_later hb h.1, cell_later hb h.2.1, h.2.2.below hb⟩
theorem AtS.new {w0 w : World} {R : Nat} {k sp : Int} {n : ByteArray} {qa : Option Addr} {al ca : Nat} {tx : ByteArray} {qk : Option Addr} {kl ck : Nat} (ya yb : ByteArray) (h : NdS w0 R k sp n qa al ca tx qk kl ck w) : AtS w0 R k sp n qa al ca tx qk kl ck w.heap.size ya yb (w.alloc (Obj.cells #[.string ya, .string yb] 112)) :=
  ⟨(Blk.new w #[.string ya, .string yb] 112).cell 0, (Blk.new w #[.string ya, .string yb] 112).cell 1, h.below ((Below.refl _ _).alloc (Nat.le_refl _) _)⟩
theorem numW_nb {n : Int} (h0 : 0 ≤ n) (h1 : n ≤ 1099511627776) : numW n = nb n := if_pos ⟨h0, h1⟩
/-! ### Plain -/
theorem ra_elem {k sp : Int} {n : ByteArray} {ats : List (ByteArray × ByteArray)} {tx : ByteArray} {kl : Nat} (hk : leafB k = false) (h : raB k sp n ats tx kl = true) : k = 1 ∧ 0 ≤ sp ∧ sp ≤ 2 := by
  unfold leafB at hk
  simp at hk
  unfold raB at h
  by_cases h1 : k = 1
  · rw [if_pos h1] at h
    simp at h
    exact ⟨h1, h.2.1, h.2.2.1⟩
  · rw [if_neg h1, if_neg hk.1, if_neg hk.2] at h
    cases h
def plnV (f : Forest) : List UInt8 := bytesL f
/-! ### Bytes -/
end Go.Proofs.YtbabmkilbbbmoaaDoor

/-
  Unlike right nodes have unlike bytes, and no one's bytes begin with another one's (plain).
-/
namespace Go.Proofs.YtbabmkilbbbmoaaDoor
set_option linter.unusedVariables false
set_option linter.unusedSimpArgs false

theorem nb_uniq {a b : Int} {r s : List UInt8} (ha : 0 ≤ a ∧ a ≤ 1099511627776) (hb : 0 ≤ b ∧ b ≤ 1099511627776) (h : nb a ++ r = nb b ++ s) : a = b ∧ r = s := by
  have h1 := takeN_nb a r ha.1 ha.2
  rw [h, takeN_nb b s hb.1 hb.2] at h1
  have h2 : b = a := by simpa using congrArg (fun o => o.map (·.1)) h1
  subst h2
  exact ⟨rfl, List.append_cancel_left h⟩
theorem numW_uniq {a b : Int} {r s : List UInt8} (ha : 0 ≤ a ∧ a ≤ 1099511627776) (hb : 0 ≤ b ∧ b ≤ 1099511627776) (h : numW a ++ r = numW b ++ s) : a = b ∧ r = s := by
  rw [numW_nb ha.1 ha.2, numW_nb hb.1 hb.2] at h
  exact nb_uniq ha hb h
theorem tb_uniq {x y : ByteArray} {r s : List UInt8} (hx : x.size ≤ 65536) (hy : y.size ≤ 65536) (h : tb x ++ r = tb y ++ s) : x = y ∧ r = s := by
  unfold tb at h
  rw [List.append_assoc, List.append_assoc] at h
  obtain ⟨h1, h2⟩ := nb_uniq (by omega) (by omega) h
  have h3 : x.data.toList.length = y.data.toList.length := by
    have e1 : x.data.toList.length = x.size := by rw [Array.length_toList]; rfl
    have e2 : y.data.toList.length = y.size := by rw [Array.length_toList]; rfl
    omega
  obtain ⟨h4, h5⟩ := List.append_inj h2 h3
  refine ⟨?_, h5⟩
  rw [← bs_self x, ← bs_self y, h4]
def AtF (ats : List (ByteArray × ByteArray)) : Prop := ∀ a ∈ ats, a.1.size ≤ 65536 ∧ a.2.size ≤ 65536
theorem at_fits {ats : List (ByteArray × ByteArray)} (h : Fits ats) : AtF ats := by
  intro a ha
  obtain ⟨k, hk, rfl⟩ := List.getElem_of_mem ha
  have h1 := h.2 k hk
  have h3 : ats.getD k (ByteArray.empty, ByteArray.empty) = ats[k] := by simp [List.getD, List.getElem?_eq_getElem hk]
  unfold an av at h1
  rw [h3] at h1
  omega
theorem at_uniq : ∀ (a b : List (ByteArray × ByteArray)), a.length = b.length → AtF a → AtF b → ∀ r s : List UInt8, atW a ++ r = atW b ++ s → a = b ∧ r = s
  | [], [], _, _, _, r, s, h => ⟨rfl, h⟩
  | [], _ :: _, hl, _, _, _, _, _ => by simp at hl
  | _ :: _, [], hl, _, _, _, _, _ => by simp at hl
  | (x1, x2) :: a, (y1, y2) :: b, hl, ha, hb, r, s, h => by
    have a0 := ha _ (List.mem_cons_self ..)
    have b0 := hb _ (List.mem_cons_self ..)
    dsimp only at a0 b0
    simp only [atW, List.append_assoc] at h
    obtain ⟨e1, h⟩ := tb_uniq a0.1 b0.1 h
    obtain ⟨e2, h⟩ := tb_uniq a0.2 b0.2 h
    obtain ⟨e3, h⟩ := at_uniq a b (by simpa using hl) (fun z hz => ha z (List.mem_cons_of_mem _ hz)) (fun z hz => hb z (List.mem_cons_of_mem _ hz)) r s h
    exact ⟨by rw [e1, e2, e3], h⟩
theorem empty_of {n : ByteArray} (h : n.toList.isEmpty = true) : n = ⟨#[]⟩ := by
  rw [Lib.toList_data] at h
  have h1 : n.data.toList = [] := by simpa using h
  rw [← bs_self n, h1]; rfl
theorem ra_is {k sp : Int} {n : ByteArray} {ats : List (ByteArray × ByteArray)} {tx : ByteArray} {kl : Nat} (h : raB k sp n ats tx kl = true) :
    (k = 1 ∧ 0 ≤ sp ∧ sp ≤ 2 ∧ tx = ⟨#[]⟩) ∨ ((k = 2 ∨ k = 3) ∧ sp = 0 ∧ n = ⟨#[]⟩ ∧ ats = [] ∧ kl = 0) := by
  have ta : ∀ (h : taB sp n tx ats.length kl = true), sp = 0 ∧ n = ⟨#[]⟩ ∧ ats = [] ∧ kl = 0 := by
    intro h
    unfold taB at h
    simp only [Bool.and_eq_true, beq_iff_eq] at h
    exact ⟨h.2.1, empty_of h.2.2.1, List.eq_nil_of_length_eq_zero h.2.2.2.1, h.2.2.2.2⟩
  unfold raB at h
  by_cases h1 : k = 1
  · rw [if_pos h1] at h
    simp only [Bool.and_eq_true, decide_eq_true_eq] at h
    exact Or.inl ⟨h1, h.2.1, h.2.2.1, empty_of h.2.2.2⟩
  rw [if_neg h1] at h
  by_cases h2 : k = 2
  · rw [if_pos h2, Bool.and_eq_true] at h
    exact Or.inr ⟨Or.inl h2, ta h.2⟩
  rw [if_neg h2] at h
  by_cases h3 : k = 3
  · rw [if_pos h3] at h
    exact Or.inr ⟨Or.inr h3, ta h⟩
  · rw [if_neg h3] at h; cases h
theorem len0 {f : Forest} (h : f.len = 0) : f = .nil := len_nil h
theorem by_uniq : ∀ (f g : Forest), f.len = g.len → SmF f → SmF g → allB f = true → allB g = true → ∀ r s : List UInt8, byF f ++ r = byF g ++ s → f = g ∧ r = s
  | .nil, .nil, _, _, _, _, _, r, s, h => ⟨rfl, h⟩
  | .nil, .cons _ _ _ _ _ _ _, hl, _, _, _, _, _, _, _ => by simp [Forest.len] at hl
  | .cons _ _ _ _ _ _ _, .nil, hl, _, _, _, _, _, _, _ => by simp [Forest.len] at hl
  | .cons k sp n ats tx kids rest, .cons k' sp' n' ats' tx' kids' rest', hl, hs, hs', ha, ha', r, s, h => by
    have hl' : rest.len = rest'.len := by simpa [Forest.len] using hl
    obtain ⟨⟨htx, hn, hfit, hkc⟩, hsk, hsr⟩ := hs
    obtain ⟨⟨htx', hn', hfit', hkc'⟩, hsk', hsr'⟩ := hs'
    have ha1 : (raB k sp n ats tx kids.len && ((leafB k || (apartB kids && allB kids)) && allB rest)) = true := ha
    have ha1' : (raB k' sp' n' ats' tx' kids'.len && ((leafB k' || (apartB kids' && allB kids')) && allB rest')) = true := ha'
    rw [Bool.and_eq_true, Bool.and_eq_true] at ha1 ha1'
    obtain ⟨hra, hlf, hrest⟩ := ha1
    obtain ⟨hra', hlf', hrest'⟩ := ha1'
    have h : (nodeL k sp n ats tx kids.len ++ (byF kids ++ byF rest)) ++ r = (nodeL k' sp' n' ats' tx' kids'.len ++ (byF kids' ++ byF rest')) ++ s := h
    have hkl := kids.len_count
    have hkl' := kids'.len_count
    have ial := hfit.1
    have ial' := hfit'.1
    have hk : 0 ≤ k ∧ k ≤ 1099511627776 := by rcases ra_is hra with ⟨h1, _⟩ | ⟨h1 | h1, _⟩ <;> omega
    have hk' : 0 ≤ k' ∧ k' ≤ 1099511627776 := by rcases ra_is hra' with ⟨h1, _⟩ | ⟨h1 | h1, _⟩ <;> omega
    have hkk : k = k' := by
      unfold nodeL at h
      split at h <;> split at h <;> (simp only [List.append_assoc] at h; exact (numW_uniq hk hk' h).1)
    subst hkk
    unfold nodeL at h
    rcases ra_is hra with ⟨h1, hsp, hsp2, htx0⟩ | ⟨h1, hsp0, hn0, hat0, hkl0⟩
    · rcases ra_is hra' with ⟨_, hsp', hsp2', htx0'⟩ | ⟨h1', _⟩
      · rw [if_pos h1, if_pos h1] at h
        simp only [List.append_assoc] at h
        obtain ⟨_, h⟩ := numW_uniq hk hk h
        obtain ⟨e1, h⟩ := numW_uniq ⟨hsp, by omega⟩ ⟨hsp', by omega⟩ h
        obtain ⟨e2, h⟩ := tb_uniq (by omega) (by omega) h
        obtain ⟨e3, h⟩ := numW_uniq (by omega) (by omega) h
        obtain ⟨e4, h⟩ := at_uniq ats ats' (by omega) (at_fits hfit) (at_fits hfit') _ _ h
        obtain ⟨e5, h⟩ := numW_uniq (by omega) (by omega) h
        have hlk : leafB k = false := by rw [h1]; rfl
        rw [hlk, Bool.false_or, Bool.and_eq_true] at hlf hlf'
        obtain ⟨e6, h⟩ := by_uniq kids kids' (by omega) hsk hsk' hlf.2 hlf'.2 _ _ h
        obtain ⟨e7, h⟩ := by_uniq rest rest' hl' hsr hsr' hrest hrest' _ _ h
        exact ⟨by rw [e1, e2, e4, htx0, htx0', e6, e7], h⟩
      · omega
    · rcases ra_is hra' with ⟨h1', _⟩ | ⟨_, hsp0', hn0', hat0', hkl0'⟩
      · omega
      · have hk1 : ¬ k = 1 := by omega
        have q := len0 hkl0
        have q' := len0 hkl0'
        rw [if_neg hk1, if_neg hk1, q, q'] at h
        simp only [List.append_assoc] at h
        obtain ⟨_, h⟩ := numW_uniq hk hk h
        obtain ⟨e2, h⟩ := tb_uniq (by omega) (by omega) h
        have h : byF rest ++ r = byF rest' ++ s := h
        obtain ⟨e7, h⟩ := by_uniq rest rest' hl' hsr hsr' hrest hrest' _ _ h
        exact ⟨by rw [hsp0, hsp0', hn0, hn0', hat0, hat0', e2, q, q', e7], h⟩
theorem bytes_uniq {f g : Forest} (hs : SmF f) (hs' : SmF g) (hc : f.count ≤ 1000000) (hc' : g.count ≤ 1000000) (ha : allB f = true) (ha' : allB g = true) {r s : List UInt8} (h : bytesL f ++ r = bytesL g ++ s) : f = g ∧ r = s := by
  unfold bytesL at h
  simp only [List.append_assoc] at h
  have := f.len_count
  have := g.len_count
  obtain ⟨e, h⟩ := numW_uniq (by omega) (by omega) h
  exact by_uniq f g (by omega) hs hs' ha ha' _ _ h
theorem check0 {f : Forest} (h : checkN f = 0) : allB f = true ∧ f.count ≤ 300 := by
  rw [check_is] at h
  unfold rcheckN at h
  by_cases h2 : 300 < f.count ∨ 40 < f.depth
  · rw [if_pos h2] at h; omega
  rw [if_neg h2] at h
  have h3 : rightN f = true := by
    cases h4 : rightN f with
    | true => rfl
    | false => rw [h4] at h; simp at h
  unfold rightN at h3
  rw [Bool.and_eq_true] at h3
  exact ⟨h3.2, by omega⟩
theorem alikeN_eq {k sp : Int} {n : ByteArray} {ats : List (ByteArray × ByteArray)} {tx : ByteArray} {k' sp' : Int} {n' : ByteArray} {ats' : List (ByteArray × ByteArray)} {tx' : ByteArray} :
    alikeN k sp n ats tx k' sp' n' ats' tx' = true ↔ k = k' ∧ sp = sp' ∧ n = n' ∧ tx = tx' ∧ ats = ats' := by
  unfold alikeN sameA
  simp only [Bool.and_eq_true, decide_eq_true_eq]
theorem sameF_eq : ∀ (f g : Forest), sameF f g = true ↔ f = g
  | .nil, .nil => by simp [sameF]
  | .nil, .cons _ _ _ _ _ _ _ => by simp [sameF]
  | .cons _ _ _ _ _ _ _, .nil => by simp [sameF]
  | .cons k sp n ats tx kids r, .cons k' sp' n' ats' tx' kids' r' => by
    rw [sameF, Bool.and_eq_true, Bool.and_eq_true, alikeN_eq, sameF_eq kids kids', sameF_eq r r']
    constructor
    · rintro ⟨⟨rfl, rfl, rfl, rfl, rfl⟩, rfl, rfl⟩; rfl
    · intro h; injection h with h1 h2 h3 h4 h5 h6 h7; exact ⟨⟨h1, h2, h3, h5, h4⟩, h6, h7⟩
def begB (x y : List UInt8) : Bool := decide (y.length ≤ x.length ∧ x.take y.length = y)
theorem beg_app {x y : List UInt8} (h : begB x y = true) : ∃ r, x = y ++ r := by
  have := of_decide_eq_true h
  exact ⟨x.drop y.length, by rw [← this.2]; rw [List.length_take, Nat.min_eq_left this.1]; exact (List.take_append_drop _ _).symm⟩
theorem beg_self (x : List UInt8) : begB x x = true := decide_eq_true ⟨Nat.le_refl _, List.take_length⟩
theorem apart_is {f g : Forest} (hs : SmF f) (hs' : SmF g) (h0 : checkN f = 0) (h0' : checkN g = 0) : (begB (bytesL f) (bytesL g) || begB (bytesL g) (bytesL f)) = sameF f g := by
  obtain ⟨ha, hc⟩ := check0 h0
  obtain ⟨ha', hc'⟩ := check0 h0'
  cases hsf : sameF f g with
  | true =>
    have := (sameF_eq f g).1 hsf
    subst this
    rw [beg_self]; rfl
  | false =>
    have hne : ¬ f = g := fun e => by rw [(sameF_eq f g).2 e] at hsf; cases hsf
    have b1 : begB (bytesL f) (bytesL g) = false := by
      cases hb : begB (bytesL f) (bytesL g) with
      | false => rfl
      | true =>
        obtain ⟨r, hr⟩ := beg_app hb
        exact absurd (bytes_uniq (r := []) (s := r) hs hs' (by omega) (by omega) ha ha' (by rw [List.append_nil]; exact hr)).1 hne
    have b2 : begB (bytesL g) (bytesL f) = false := by
      cases hb : begB (bytesL g) (bytesL f) with
      | false => rfl
      | true =>
        obtain ⟨r, hr⟩ := beg_app hb
        exact absurd (bytes_uniq (r := r) (s := []) hs hs' (by omega) (by omega) ha ha' (by rw [List.append_nil]; exact hr.symm)).1 hne
    rw [b1, b2]; rfl
end Go.Proofs.YtbabmkilbbbmoaaDoor
