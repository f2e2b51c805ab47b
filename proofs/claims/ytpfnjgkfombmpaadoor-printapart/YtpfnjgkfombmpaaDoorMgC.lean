/-
  Several texts in one: what the functions of the program and of the document's answer do.
-/
import Derived.Test.YtpfnjgkfombmpaaDoorMgB
import Derived.Test.YtpfnjgkfombmpaaDoorUChr
import Derived.Test.YtpfnjgkfombmpaaDoorMgA
import Derived.Shelf.Small.Wraps
import Derived.Shelf.Strings.Prefix
import Derived.Laws.IdiomStrings
import Derived.Test.YtpfnjgkfombmpaaDoorUPl
import Derived.Lib.DecodeN
import Derived.Test.YtpfnjgkfombmpaaDoorRows
import Derived.Shelf.Strings.Builder1
import Derived.Shelf.Strings.BuilderK
import Derived.Test.YtpfnjgkfombmpaaDoorUFst
import Derived.Test.YtpfnjgkfombmpaaDoorPNm
import Derived.Maps.OwnSet
import Derived.Maps.Views
import Derived.Test.YtpfnjgkfombmpaaDoorURgt
import Derived.Deep.RegionWith

/-
  The tables of package refs, and what refs and its reference make of texts, as plain functions of lists of bytes.
-/
namespace Go.Proofs.YtpfnjgkfombmpaaDoor
open Go.RowKit
set_option linter.unusedVariables false
set_option linter.unusedSimpArgs false

def nmT : List (List UInt8 × Int × Bool) := [([97, 109, 112], 38, true), ([108, 116], 60, true), ([103, 116], 62, true), ([113, 117, 111, 116], 34, true), ([110, 98, 115, 112], 160, true), ([99, 111, 112, 121], 169, true), ([114, 101, 103], 174, true), ([110, 111, 116], 172, true), ([110, 111, 116, 105, 110], 8713, false), ([116, 105, 109, 101, 115], 215, true), ([112, 97, 114, 97], 182, true), ([115, 101, 99, 116], 167, true), ([101, 97, 99, 117, 116, 101], 233, true), ([69, 97, 99, 117, 116, 101], 201, true), ([97, 117, 109, 108], 228, true), ([65, 117, 109, 108], 196, true), ([115, 122, 108, 105, 103], 223, true), ([101, 117, 114, 111], 8364, false), ([104, 101, 108, 108, 105, 112], 8230, false), ([109, 100, 97, 115, 104], 8212, false), ([110, 100, 97, 115, 104], 8211, false), ([97, 108, 112, 104, 97], 945, false), ([98, 101, 116, 97], 946, false), ([114, 97, 114, 114], 8594, false), ([108, 97, 114, 114], 8592, false), ([97, 112, 111, 115], 39, false), ([121, 101, 110], 165, true), ([109, 105, 99, 114, 111], 181, true)]
def nmName (k : Nat) : List UInt8 := (nmT.getD k ([], 0, false)).1
def nmChar (k : Nat) : Int := (nmT.getD k ([], 0, false)).2.1
def nmBare (k : Nat) : Bool := (nmT.getD k ([], 0, false)).2.2
def oldT : List Int := [8364, 0, 8218, 402, 8222, 8230, 8224, 8225, 710, 8240, 352, 8249, 338, 0, 381, 0, 0, 8216, 8217, 8220, 8221, 8226, 8211, 8212, 732, 8482, 353, 8250, 339, 0, 382, 376]
def oldAt (k : Nat) : Int := oldT.getD k 0

theorem nm_facts : ∀ k, k < 28 → 2 ≤ (nmName k).length ∧ (nmName k).length ≤ 6 ∧ 0 < nmChar k ∧ nmChar k ≤ 8713 ∧ isC (nmChar k) = true := by decide
theorem nm_inj : ∀ k, k < 28 → ∀ j, j < 28 → nmName k = nmName j → k = j := by decide
theorem nm_plain : ∀ k, k < 28 → ∀ c ∈ nmName k, ltN c.toNat = true := by decide

/-! ### the character of a name, of a number -/
def findF : Nat → List UInt8 → Option Nat
  | 0, _ => none
  | f + 1, l => if nmName (27 - f) = l then some (27 - f) else findF f l
def nameI (l : List UInt8) : Option Nat := findF 28 l
theorem findF_some : ∀ (f : Nat) (l : List UInt8) (k : Nat), f ≤ 28 → findF f l = some k → k < 28 ∧ nmName k = l
  | 0, l, k, _, h => by cases h
  | f + 1, l, k, hf, h => by
    rw [findF] at h
    split at h
    · rename_i e; cases h; exact ⟨by omega, e⟩
    · exact findF_some f l k (by omega) h
theorem findF_none : ∀ (f : Nat) (l : List UInt8), f ≤ 28 → findF f l = none → ∀ k, 28 - f ≤ k → k < 28 → ¬ nmName k = l
  | 0, l, _, _, k, h1, h2 => by omega
  | f + 1, l, hf, h, k, h1, h2 => by
    rw [findF] at h
    split at h
    · cases h
    · rename_i e
      by_cases hk : k = 27 - f
      · subst hk; exact e
      · exact findF_none f l (by omega) h k (by omega) h2
theorem nameI_some {l : List UInt8} {k : Nat} (h : nameI l = some k) : k < 28 ∧ nmName k = l := findF_some 28 l k (Nat.le_refl _) h
theorem nameI_none {l : List UInt8} (h : nameI l = none) : ∀ k, k < 28 → ¬ nmName k = l := fun k hk => findF_none 28 l (Nat.le_refl _) h k (by omega) hk
theorem nameI_is {k : Nat} (h : k < 28) : nameI (nmName k) = some k := by
  cases e : nameI (nmName k) with
  | none => exact absurd rfl (nameI_none e k h)
  | some j => have := nameI_some e; rw [nm_inj j this.1 k h this.2]
def nameC (l : List UInt8) : Int := match nameI l with | none => 0 | some k => nmChar k
theorem nameC_none {l : List UInt8} (h : nameI l = none) : nameC l = 0 := by simp only [nameC, h]
theorem nameC_some {l : List UInt8} {k : Nat} (h : nameI l = some k) : nameC l = nmChar k := by simp only [nameC, h]

def numC (n : Int) : Int := if n ≤ 0 ∨ isC n = false then 65533 else if 128 ≤ n ∧ n < 160 ∧ oldAt (n - 128).toNat ≠ 0 then oldAt (n - 128).toNat else n
theorem old_isC : ∀ k, k < 32 → oldAt k ≠ 0 → isC (oldAt k) = true := by decide
theorem numC_isC (n : Int) : isC (numC n) = true := by
  unfold numC
  split
  · decide
  · rename_i h1
    split
    · rename_i h2; exact old_isC _ (by omega) h2.2.2
    · cases h : isC n with
      | true => rfl
      | false => exact absurd (.inr h) h1
theorem numC_big {n m : Int} (h : 1114112 ≤ n) (h2 : 1114112 ≤ m) : numC n = numC m := by
  rw [numC, numC, if_pos (.inr (isC_no (by omega))), if_pos (.inr (isC_no (by omega)))]
end Go.Proofs.YtpfnjgkfombmpaaDoor

/-
  What 'refs.Name' and 'refs.Number' do: of every name its character, of every number its character.
-/
namespace Go.Proofs.YtpfnjgkfombmpaaDoor
open Go.RowKit
set_option linter.unusedVariables false

theorem numC_no {n : Int} (h : n ≤ 0 ∨ isC n = false) : numC n = 65533 := by rw [numC, if_pos h]
theorem numC_old {n : Int} (h0 : 128 ≤ n) (h1 : n < 160) (h2 : ¬ oldAt (n - 128).toNat = 0) : numC n = oldAt (n - 128).toNat := by
  rw [numC, if_neg (by rw [isC_mk (by omega)]; simp; omega), if_pos ⟨h0, h1, h2⟩]
theorem numC_self {n : Int} (h0 : 0 < n) (hc : isC n = true) (h2 : ¬ (128 ≤ n ∧ n < 160 ∧ oldAt (n - 128).toNat ≠ 0)) : numC n = n := by
  rw [numC, if_neg (by rw [hc]; simp; omega), if_neg h2]

end Go.Proofs.YtpfnjgkfombmpaaDoor

/-
  What strings.HasPrefix and strings.CutPrefix do: the library's contracts, laid at this program.
-/
namespace Go.Proofs.YtpfnjgkfombmpaaDoor
open Go.RowKit
set_option linter.unusedVariables false

def Tryd.renP : Go.Shelf.Ren := ⟨fun | 99 => 74 | 206 => 97 | n => n,
  fun | 3 => 3 | 4 => 4 | 9 => 9 | n => n,
  fun n => n⟩
theorem Tryd.lays99 : Go.Proofs.Lays.n99 Tryd.prog Tryd.renP where
  mixed := by kernel_rfl
  f99 := Tryd.func74.trans (congrArg some (by kernel_rfl))
  f206 := Tryd.func97.trans (congrArg some (by kernel_rfl))
  t3 := Tryd.underlying3
  a3 := Tryd.isAgg3
  z3 := Tryd.sizeOf3
  v3 := Tryd.zeroValue3
  t4 := Tryd.underlying4
  a4 := Tryd.isAgg4
  z4 := Tryd.sizeOf4
  v4 := Tryd.zeroValue4
  t9 := Tryd.underlying9
  a9 := Tryd.isAgg9
  z9 := Tryd.sizeOf9
  v9 := Tryd.zeroValue9
theorem hasPrefix_any (s p : ByteArray) (w : World) :
    Calls Tryd.prog 74 #[.string s, .string p] w fun e w' => e = .returned (.bool (p.data.toList.isPrefixOf s.data.toList)) ∧ w' = w := Any.strings_HasPrefix Tryd.lays99 s p w
end Go.Proofs.YtpfnjgkfombmpaaDoor

/-
  What the small functions of refs do: 'semicolonAt', 'goesOn', 'digitOf', 'bytesOf'.
-/
namespace Go.Proofs.YtpfnjgkfombmpaaDoor
open Go.RowKit
set_option linter.unusedVariables false

def semiN (l : List UInt8) : Nat := if [59].isPrefixOf l = true then 1 else 0
def onB (l : List UInt8) : Bool := decide (0 < l.length) && (ltN (dgt l 0) || dgN (dgt l 0) || decide (dgt l 0 = 61))
def candN (k : Nat) (m : List UInt8) (v : Bool) : Nat :=
  if (nmName k).isPrefixOf m = true then
    (if semiN (m.drop (nmName k).length) = 1 then (nmName k).length + 2
     else if nmBare k = false ∨ (v = true ∧ onB (m.drop (nmName k).length) = true) then 0 else (nmName k).length + 1)
  else 0
theorem semi_le (l : List UInt8) : semiN l ≤ 1 := by unfold semiN; split <;> omega

def digV (b : Nat) : Int := if 48 ≤ b ∧ b ≤ 57 then (b : Int) - 48 else if 97 ≤ b ∧ b ≤ 102 then (b : Int) - 87 else if 65 ≤ b ∧ b ≤ 70 then (b : Int) - 55 else -1
theorem digV_le (b : Nat) : -1 ≤ digV b ∧ digV b ≤ 15 := by
  unfold digV
  repeat' split
  all_goals omega
end Go.Proofs.YtpfnjgkfombmpaaDoor

/-
  What small functions of the reference of layer 4 do: 'at', 'value'; and 'refs.nameFor'.
-/
namespace Go.Proofs.YtpfnjgkfombmpaaDoor
open Go.RowKit
set_option linter.unusedVariables false

/-- The byte at a place; 0 where there is none. -/
def atB (l : List UInt8) (k : Nat) : Nat := if k < l.length then dgt l k else 0
theorem rat_at (s : ByteArray) (k : Nat) (w : World) (hk : k ≤ 9223372036854775807) (hs : s.size ≤ 9223372036854775807) :
    Calls Tryd.prog 72 #[.string s, .int .i64 (k : Int)] w fun e w' => e = .returned (.int .u8 (atB s.data.toList k : Int)) ∧ w' = w := by
  have i0 : ¬ (k : Int) < 0 := by omega
  unfold atB
  rw [data_len]
  by_cases h : k < s.size
  · rw [if_pos h]
    have i1 : (k : Int) < (s.size : Int) := by omega
    have i2 : ¬ (s.size : Int) ≤ (k : Int) := by omega
    have e := dgt_at s k h
    generalize dgt s.data.toList k = b at *
    go_enter Tryd.func72, Tryd.ntmps72
    go_wp2
    go_ret
    exact ⟨rfl, rfl⟩
  · rw [if_neg h]
    have i2 : (s.size : Int) ≤ (k : Int) := by omega
    go_enter Tryd.func72, Tryd.ntmps72
    go_wp2
    go_ret
    exact ⟨rfl, rfl⟩

def valN (b : Nat) : Int := if 48 ≤ b ∧ b ≤ 57 then (b : Int) - 48 else if 97 ≤ b ∧ b ≤ 102 then (b : Int) - 87 else if 65 ≤ b ∧ b ≤ 70 then (b : Int) - 55 else 99
theorem val_dig (b : Nat) : (0 ≤ digV b → valN b = digV b) ∧ (digV b < 0 → valN b = 99) := by
  unfold valN digV
  repeat' split
  all_goals omega
/-- The name that is written for a character. -/
def forN (c : Int) (v : Bool) : List UInt8 :=
  if c = 38 then [97, 109, 112] else if c = 160 then [110, 98, 115, 112] else if c = 60 then [108, 116] else if c = 62 then [103, 116] else if c = 34 ∧ v = true then [113, 117, 111, 116] else []
theorem nameFor_any (c : Int) (v : Bool) (w : World) :
    Calls Tryd.prog 70 #[.int .i32 c, .bool v] w fun e w' => e = .returned (.string (bs (forN c v))) ∧ w' = w := by
  unfold forN
  by_cases h0 : c = 38
  · subst h0
    rw [if_pos rfl]
    go_enter Tryd.func70, Tryd.ntmps70
    go_wp2
    go_ret
    exact ⟨rfl, rfl⟩
  have n0 : (c == 38) = false := beq_eq_false_iff_ne.2 h0
  by_cases h1 : c = 160
  · subst h1
    rw [if_neg (by decide), if_pos rfl]
    go_enter Tryd.func70, Tryd.ntmps70
    go_wp2
    go_ret
    exact ⟨rfl, rfl⟩
  have n1 : (c == 160) = false := beq_eq_false_iff_ne.2 h1
  by_cases h2 : c = 60
  · subst h2
    rw [if_neg (by decide), if_neg (by decide), if_pos rfl]
    go_enter Tryd.func70, Tryd.ntmps70
    go_wp2
    go_ret
    exact ⟨rfl, rfl⟩
  have n2 : (c == 60) = false := beq_eq_false_iff_ne.2 h2
  by_cases h3 : c = 62
  · subst h3
    rw [if_neg (by decide), if_neg (by decide), if_neg (by decide), if_pos rfl]
    go_enter Tryd.func70, Tryd.ntmps70
    go_wp2
    go_ret
    exact ⟨rfl, rfl⟩
  have n3 : (c == 62) = false := beq_eq_false_iff_ne.2 h3
  rw [if_neg h0, if_neg h1, if_neg h2, if_neg h3]
  by_cases h4 : c = 34
  · subst h4
    cases v with
    | true =>
      rw [if_pos ⟨rfl, rfl⟩]
      go_enter Tryd.func70, Tryd.ntmps70
      go_wp2
      go_ret
      exact ⟨rfl, rfl⟩
    | false =>
      rw [if_neg (by simp)]
      go_enter Tryd.func70, Tryd.ntmps70
      go_wp2
      go_ret
      exact ⟨rfl, rfl⟩
  · have n4 : (c == 34) = false := beq_eq_false_iff_ne.2 h4
    rw [if_neg (fun h => h4 h.1)]
    clear h0 h1 h2 h3 h4
    go_enter Tryd.func70, Tryd.ntmps70
    go_wp2
    go_ret
    exact ⟨rfl, rfl⟩
end Go.Proofs.YtpfnjgkfombmpaaDoor

/-
  What the reference's Escape does: any text with references.
-/
namespace Go.Proofs.YtpfnjgkfombmpaaDoor
open Go.RowKit
set_option linter.unusedVariables false

def ampL : List UInt8 := [38, 97, 109, 112, 59]
def ltL : List UInt8 := [38, 108, 116, 59]
def gtL : List UInt8 := [38, 103, 116, 59]
def quotL : List UInt8 := [38, 113, 117, 111, 116, 59]
def nbspL : List UInt8 := [38, 110, 98, 115, 112, 59]
def hd160 : List UInt8 → Bool
  | [] => false
  | c :: _ => decide (c.toNat = 160)
/-- The text with references; the flag: the first byte is passed over. -/
def escS (v : Bool) : Bool → List UInt8 → List UInt8
  | _, [] => []
  | true, _ :: l => escS v false l
  | false, c :: l =>
    if c.toNat = 38 then ampL ++ escS v false l else if c.toNat = 60 then ltL ++ escS v false l else if c.toNat = 62 then gtL ++ escS v false l
    else if c.toNat = 34 then (if v = true then quotL else [34]) ++ escS v false l
    else if c.toNat = 194 ∧ hd160 l = true then nbspL ++ escS v true l else c :: escS v false l
def escL (v : Bool) (l : List UInt8) : List UInt8 := escS v false l
theorem hd160_at (l : List UInt8) (k : Nat) : hd160 (l.drop k) = decide (atB l k = 160) := by
  unfold atB
  by_cases h : k < l.length
  · obtain ⟨c, hc, hn⟩ := drop_at l k h
    rw [if_pos h, hc, hd160, hn]
  · rw [if_neg h, List.drop_eq_nil_of_le (by omega)]; rfl
theorem esc_38 {v : Bool} {l : List UInt8} {k : Nat} (hk : k < l.length) (h : dgt l k = 38) : escL v (l.drop k) = ampL ++ escL v (l.drop (k + 1)) := by
  obtain ⟨c, hc, hn⟩ := drop_at l k hk
  rw [escL, hc, escS, if_pos (by omega)]; rfl
theorem esc_60 {v : Bool} {l : List UInt8} {k : Nat} (hk : k < l.length) (h : dgt l k = 60) : escL v (l.drop k) = ltL ++ escL v (l.drop (k + 1)) := by
  obtain ⟨c, hc, hn⟩ := drop_at l k hk
  rw [escL, hc, escS, if_neg (by omega), if_pos (by omega)]; rfl
theorem esc_62 {v : Bool} {l : List UInt8} {k : Nat} (hk : k < l.length) (h : dgt l k = 62) : escL v (l.drop k) = gtL ++ escL v (l.drop (k + 1)) := by
  obtain ⟨c, hc, hn⟩ := drop_at l k hk
  rw [escL, hc, escS, if_neg (by omega), if_neg (by omega), if_pos (by omega)]; rfl
theorem esc_34 {v : Bool} {l : List UInt8} {k : Nat} (hk : k < l.length) (h : dgt l k = 34) : escL v (l.drop k) = (if v = true then quotL else [34]) ++ escL v (l.drop (k + 1)) := by
  obtain ⟨c, hc, hn⟩ := drop_at l k hk
  rw [escL, hc, escS, if_neg (by omega), if_neg (by omega), if_neg (by omega), if_pos (by omega)]; rfl
theorem esc_160 {v : Bool} {l : List UInt8} {k : Nat} (hk : k + 1 < l.length) (h : dgt l k = 194) (h2 : atB l (k + 1) = 160) : escL v (l.drop k) = nbspL ++ escL v (l.drop (k + 2)) := by
  obtain ⟨c, hc, hn⟩ := drop_at l k (by omega)
  obtain ⟨c2, hc2, _⟩ := drop_at l (k + 1) hk
  have h3 : hd160 (l.drop (k + 1)) = true := by rw [hd160_at, h2]; rfl
  rw [escL, hc, escS, if_neg (by omega), if_neg (by omega), if_neg (by omega), if_neg (by omega), if_pos ⟨by omega, h3⟩, hc2, escS]; rfl
theorem esc_other {v : Bool} {l : List UInt8} {k : Nat} (hk : k < l.length) (h0 : ¬ dgt l k = 38) (h1 : ¬ dgt l k = 60) (h2 : ¬ dgt l k = 62) (h3 : ¬ dgt l k = 34) (h4 : ¬ (dgt l k = 194 ∧ atB l (k + 1) = 160)) :
    escL v (l.drop k) = byt (dgt l k : Int) :: escL v (l.drop (k + 1)) := by
  obtain ⟨c, hc, hn⟩ := drop_at l k hk
  have h5 : ¬ (c.toNat = 194 ∧ hd160 (l.drop (k + 1)) = true) := by rw [hd160_at]; simp; omega
  rw [escL, hc, escS, if_neg (by omega), if_neg (by omega), if_neg (by omega), if_neg (by omega), if_neg h5, ← hn, byt_self]; rfl
theorem at_lt {l : List UInt8} {k : Nat} (h : atB l k = 160) : k < l.length := by
  unfold atB at h; split at h
  · assumption
  · omega
theorem one_atE (s : ByteArray) (k : Nat) (h : k < s.size) : s.extract k (k + 1) = bs [byt (dgt s.data.toList k)] := by
  obtain ⟨c, hc, hn⟩ := drop_at s.data.toList k (by rw [data_len]; exact h)
  rw [extract_take, hc, ← hn, byt_self]; rfl
theorem bsArr (l : List UInt8) : (⟨l.toArray⟩ : ByteArray) = bs l := rfl

set_option maxHeartbeats 4000000 in
theorem rescape_any (s : ByteArray) (v : Bool) (w : World) (hs : s.size ≤ 100000) :
    Calls Tryd.prog 46 #[.string s, .bool v] w fun e w' => e = .returned (.string (bs (escL v s.data.toList))) ∧ w' = w := by
  go_enter Tryd.func46, Tryd.ntmps46
  go_wp2
  go_loopw [5, 6] (fun o i wr => ∃ (k : Nat) (acc : List UInt8), k ≤ s.size ∧ i = .int .i64 k ∧ o = .string (bs acc) ∧ acc.length ≤ 6 * k ∧ escL v s.data.toList = acc ++ escL v (s.data.toList.drop k) ∧ wr = w) (fun _ i _ => s.size - (intOf i).toNat)
  case atStart => exact ⟨0, [], Nat.zero_le _, rfl, rfl, by simp, rfl, rfl⟩
  case round =>
    obtain ⟨k, acc, hk, rfl, rfl, hal, hr, rfl⟩ := hrel
    have HR := hide hr
    have HAL := hide hal
    clear hr
    rw [← bs_size] at hal
    by_cases hp : k < s.size
    · have hpi : (k : Int) < (s.size : Int) := by omega
      have hkl : k < s.data.toList.length := by rw [data_len]; exact hp
      have e := dgt_at s k hp
      have hone := one_atE s k hp
      have hone' := congrArg ByteArray.size hone
      rw [bs_size] at hone'
      have s1 := esc_38 (v := v) hkl
      have s2 := esc_60 (v := v) hkl
      have s3 := esc_62 (v := v) hkl
      have s4 := esc_34 (v := v) hkl
      have s5 := fun h => esc_160 (v := v) (k := k) (l := s.data.toList) h
      have s6 := esc_other (v := v) hkl
      have CA := hide (fun w => rat_at s (k + 1) w (by omega) (by omega))
      rw [Int.natCast_add] at CA
      have hatl := @at_lt s.data.toList (k + 1)
      rw [data_len] at s5 hatl
      generalize dgt s.data.toList k = b at *
      generalize atB s.data.toList (k + 1) = b2 at *
      generalize hx : bs acc = x at *
      have HX := hide hx
      have HO := hide hone
      clear hx hone
      by_cases g38 : b = 38
      · subst g38
        have S := hide (s1 rfl)
        clear s1 s2 s3 s4 s5 s6 hatl
        go_wp2
        go_roundw
        case rel => exact ⟨k + 1, acc ++ ampL, by omega, by go_num, by rw [← unhide HX, ← bs_bs]; rfl, by have := unhide HAL; rw [List.length_append]; show _ + 5 ≤ _; omega, by rw [unhide HR, unhide S, List.append_assoc], by first | exact rfl | trivial⟩
        case measure => simp [intOf]; omega
      have n38 : ((b : Int) == 38) = false := bneI (by omega)
      by_cases g60 : b = 60
      · subst g60
        have S := hide (s2 rfl)
        clear s1 s2 s3 s4 s5 s6 hatl
        go_wp2
        go_roundw
        case rel => exact ⟨k + 1, acc ++ ltL, by omega, by go_num, by rw [← unhide HX, ← bs_bs]; rfl, by have := unhide HAL; rw [List.length_append]; show _ + 4 ≤ _; omega, by rw [unhide HR, unhide S, List.append_assoc], by first | exact rfl | trivial⟩
        case measure => simp [intOf]; omega
      have n60 : ((b : Int) == 60) = false := bneI (by omega)
      by_cases g62 : b = 62
      · subst g62
        have S := hide (s3 rfl)
        clear s1 s2 s3 s4 s5 s6 hatl
        go_wp2
        go_roundw
        case rel => exact ⟨k + 1, acc ++ gtL, by omega, by go_num, by rw [← unhide HX, ← bs_bs]; rfl, by have := unhide HAL; rw [List.length_append]; show _ + 4 ≤ _; omega, by rw [unhide HR, unhide S, List.append_assoc], by first | exact rfl | trivial⟩
        case measure => simp [intOf]; omega
      have n62 : ((b : Int) == 62) = false := bneI (by omega)
      by_cases g34 : b = 34
      · subst g34
        cases v with
        | true =>
          have S := hide (s4 rfl)
          rw [if_pos rfl] at S
          clear s1 s2 s3 s4 s5 s6 hatl
          go_wp2
          go_roundw
          case rel => exact ⟨k + 1, acc ++ quotL, by omega, by go_num, by rw [← unhide HX, ← bs_bs]; rfl, by have := unhide HAL; rw [List.length_append]; show _ + 6 ≤ _; omega, by rw [unhide HR, unhide S, List.append_assoc], by first | exact rfl | trivial⟩
          case measure => simp [intOf]; omega
        | false =>
          have S := hide (s4 rfl)
          rw [if_neg (by decide)] at S
          clear s1 s2 s3 s4 s5 s6 hatl
          go_wp2
          go_roundw
          case rel => exact ⟨k + 1, acc ++ [34], by omega, by go_num, by rw [← unhide HX, ← bs_bs]; rfl, by have := unhide HAL; rw [List.length_append]; show _ + 1 ≤ _; omega, by rw [unhide HR, unhide S, List.append_assoc], by first | exact rfl | trivial⟩
          case measure => simp [intOf]; omega
      have n34 : ((b : Int) == 34) = false := bneI (by omega)
      by_cases h4 : b = 194
      · subst h4
        by_cases h5 : b2 = 160
        · subst h5
          have hk2 := hatl rfl
          have S := hide (s5 hk2 rfl rfl)
          clear s1 s2 s3 s4 s5 s6 hatl
          go_wp2_with fail
          refine (unhide CA _).mono ?_
          rintro e1 w1 ⟨rfl, rfl⟩
          go_wp2
          go_roundw
          case rel => exact ⟨k + 2, acc ++ nbspL, by omega, by go_num, by rw [← unhide HX, ← bs_bs]; rfl, by have := unhide HAL; rw [List.length_append]; show _ + 6 ≤ _; omega, by rw [unhide HR, unhide S, List.append_assoc], by first | exact rfl | trivial⟩
          case measure => simp [intOf]; omega
        · have n5 : ((b2 : Int) == 160) = false := bneI (by omega)
          have S := hide (s6 (by omega) (by omega) (by omega) (by omega) (by omega))
          clear s1 s2 s3 s4 s5 s6 hatl h5
          go_wp2_with fail
          refine (unhide CA _).mono ?_
          rintro e1 w1 ⟨rfl, rfl⟩
          go_wp2
          go_roundw
          case rel => exact ⟨k + 1, acc ++ [byt ((194 : Nat) : Int)], by omega, by go_num, by rw [← unhide HX, unhide HO, bs_bs], by have := unhide HAL; simp; omega, by rw [unhide HR, unhide S, List.append_assoc]; rfl, by first | exact rfl | trivial⟩
          case measure => simp [intOf]; omega
      · have n4 : ((b : Int) == 194) = false := bneI (by omega)
        have S := hide (s6 (by omega) (by omega) (by omega) (by omega) (by omega))
        clear s1 s2 s3 s4 s5 s6 hatl h4 g38 g60 g62 g34
        go_wp2
        go_roundw
        case rel => exact ⟨k + 1, acc ++ [byt (b : Int)], by omega, by go_num, by rw [← unhide HX, unhide HO, bs_bs], by have := unhide HAL; simp; omega, by rw [unhide HR, unhide S, List.append_assoc]; rfl, by first | exact rfl | trivial⟩
        case measure => simp [intOf]; omega
    · have hf : escL v s.data.toList = acc := by rw [unhide HR, List.drop_eq_nil_of_le (by rw [data_len]; omega)]; simp [escL, escS]
      have HF := hide hf
      clear hf
      go_wp2
      go_ret
      exact ⟨by rw [unhide HF]; rfl, rfl⟩
end Go.Proofs.YtpfnjgkfombmpaaDoor

/-
  A text with references: how its bytes and the characters that a range over it meets hang together.
-/
namespace Go.Proofs.YtpfnjgkfombmpaaDoor
open Go.RowKit
set_option linter.unusedVariables false

theorem cut_ex (s : ByteArray) (a b : Nat) : s.extract a b = bs ((s.data.toList.drop a).take (b - a)) := by
  rw [Lib.extract_eq]; rfl
theorem get_dgt (s : ByteArray) (k : Nat) : (s.get! k).toNat = dgt s.data.toList k := by
  unfold dgt
  by_cases h : k < s.size
  · have h' : k < s.data.toList.length := by simpa using h
    rw [List.getD, List.getElem?_eq_getElem h']
    simp [ByteArray.get!, getElem!_pos, h]
  · have h' : ¬ k < s.data.toList.length := by simpa using h
    rw [List.getD, List.getElem?_eq_none (by omega)]
    simp only [ByteArray.get!]
    rw [getElem!_neg _ _ (by simpa using h)]
    rfl
theorem atB_dgt (l : List UInt8) (k : Nat) : atB l k = dgt l k := by
  unfold atB
  split
  · rfl
  · rename_i h
    unfold dgt
    rw [List.getD, List.getElem?_eq_none (by omega)]; rfl

theorem decN_low {n b0 b1 b2 b3 : Nat} (h : b0 < 128) : Lib.decodeN n b0 b1 b2 b3 = (b0, 1) := by
  unfold Lib.decodeN; rw [if_pos h]
theorem decN_nb {n b0 b1 b2 b3 : Nat} (h0 : b0 = 194) (h1 : b1 = 160) (hn : 1 < n) : Lib.decodeN n b0 b1 b2 b3 = (160, 2) := by
  subst h0; subst h1
  unfold Lib.decodeN
  rw [if_neg (by omega), if_pos (by omega), if_pos (by omega)]
theorem decN_high {n b0 b1 b2 b3 : Nat} (h : 128 ≤ b0) (h' : b0 < 256) (hn : 1 ≤ n) :
    128 ≤ (Lib.decodeN n b0 b1 b2 b3).1 ∧ 1 ≤ (Lib.decodeN n b0 b1 b2 b3).2 ∧ (Lib.decodeN n b0 b1 b2 b3).2 ≤ n ∧ (Lib.decodeN n b0 b1 b2 b3).2 ≤ 4
    ∧ ((Lib.decodeN n b0 b1 b2 b3).1 = 160 → b0 = 194 ∧ b1 = 160 ∧ 1 < n ∧ (Lib.decodeN n b0 b1 b2 b3).2 = 2)
    ∧ (1 < (Lib.decodeN n b0 b1 b2 b3).2 → 128 ≤ b1 ∧ b1 < 192) ∧ (2 < (Lib.decodeN n b0 b1 b2 b3).2 → 128 ≤ b2 ∧ b2 < 192) ∧ (3 < (Lib.decodeN n b0 b1 b2 b3).2 → 128 ≤ b3 ∧ b3 < 192) := by
  unfold Lib.decodeN
  repeat' split
  all_goals simp only []
  all_goals first | omega | (simp only [and_true]; omega)

theorem esc_run (v : Bool) (l : List UInt8) : ∀ (n k : Nat), k + n ≤ l.length → (∀ j, j < n → 128 ≤ dgt l (k + j) ∧ ¬ (dgt l (k + j) = 194 ∧ atB l (k + j + 1) = 160)) →
    escL v (l.drop k) = (l.drop k).take n ++ escL v (l.drop (k + n))
  | 0, k, _, _ => by simp
  | n + 1, k, hl, h => by
    have h0 := h 0 (by omega)
    rw [Nat.add_zero] at h0
    have hk : k < l.length := by omega
    obtain ⟨c, hc, hn⟩ := drop_at l k hk
    rw [esc_other hk (by omega) (by omega) (by omega) (by omega) h0.2, ← hn, byt_self, hc, List.take_succ_cons, List.cons_append]
    have := esc_run v l n (k + 1) (by omega) (fun j hj => by have := h (j + 1) (by omega); rw [show k + (j + 1) = k + 1 + j by omega] at this; exact this)
    rw [this, show k + 1 + n = k + (n + 1) by omega]

/-- What the range meets at a place, and what is made of it. -/
theorem esc_at (v : Bool) (s : ByteArray) (k : Nat) (hk : k < s.size) :
    (forN ((Utf8.decode s k).1 : Int) v = [] ∧ 1 ≤ (Utf8.decode s k).2 ∧ k + (Utf8.decode s k).2 ≤ s.size ∧ escL v (s.data.toList.drop k) = (s.data.toList.drop k).take (Utf8.decode s k).2 ++ escL v (s.data.toList.drop (k + (Utf8.decode s k).2)))
    ∨ (forN ((Utf8.decode s k).1 : Int) v ≠ [] ∧ (forN ((Utf8.decode s k).1 : Int) v).length ≤ 4 ∧ isC ((Utf8.decode s k).1 : Int) = true ∧ (ub ((Utf8.decode s k).1 : Int)).length = (Utf8.decode s k).2 ∧ 1 ≤ (Utf8.decode s k).2 ∧ k + (Utf8.decode s k).2 ≤ s.size
      ∧ escL v (s.data.toList.drop k) = ([38] ++ forN ((Utf8.decode s k).1 : Int) v ++ [59]) ++ escL v (s.data.toList.drop (k + (Utf8.decode s k).2))) := by
  have hkl : k < s.data.toList.length := by rw [data_len]; exact hk
  have e := Lib.decode_at s k
  rw [get_dgt, get_dgt, get_dgt, get_dgt] at e
  by_cases hlow : dgt s.data.toList k < 128
  · rw [decN_low hlow] at e
    rw [e]
    have hkl2 : k + 1 ≤ s.size := by omega
    simp only
    by_cases h38 : dgt s.data.toList k = 38
    · rw [h38, esc_38 hkl h38]
      exact .inr ⟨by decide +revert, by decide +revert, by decide, by decide, by omega, by omega, by cases v <;> rfl⟩
    by_cases h60 : dgt s.data.toList k = 60
    · rw [h60, esc_60 hkl h60]
      exact .inr ⟨by decide +revert, by decide +revert, by decide, by decide, by omega, by omega, by cases v <;> rfl⟩
    by_cases h62 : dgt s.data.toList k = 62
    · rw [h62, esc_62 hkl h62]
      exact .inr ⟨by decide +revert, by decide +revert, by decide, by decide, by omega, by omega, by cases v <;> rfl⟩
    have hone : (s.data.toList.drop k).take 1 = [byt (dgt s.data.toList k : Int)] := by
      obtain ⟨c, hc, hn⟩ := drop_at s.data.toList k hkl
      rw [hc, ← hn, byt_self]; rfl
    by_cases h34 : dgt s.data.toList k = 34
    · cases v with
      | true =>
        rw [h34, esc_34 hkl h34]
        exact .inr ⟨by decide, by decide, by decide, by decide, by omega, by omega, rfl⟩
      | false =>
        rw [hone, h34, esc_34 hkl h34]
        exact .inl ⟨by decide, by omega, by omega, rfl⟩
    · rw [hone, esc_other hkl h38 h60 h62 h34 (by omega)]
      refine .inl ⟨?_, by omega, by omega, rfl⟩
      unfold forN
      rw [if_neg (by omega), if_neg (by omega), if_neg (by omega), if_neg (by omega), if_neg (by omega)]
  · have hd := decN_high (n := s.size - k) (b0 := dgt s.data.toList k) (b1 := dgt s.data.toList (k + 1)) (b2 := dgt s.data.toList (k + 2)) (b3 := dgt s.data.toList (k + 3)) (by omega) (dgt_lt _ _) (by omega)
    have hnb := decN_nb (n := s.size - k) (b0 := dgt s.data.toList k) (b1 := dgt s.data.toList (k + 1)) (b2 := dgt s.data.toList (k + 2)) (b3 := dgt s.data.toList (k + 3))
    rw [← e] at hd hnb
    obtain ⟨d1, d2, d3, d4, d5, d6, d7, d8⟩ := hd
    by_cases h160 : (Utf8.decode s k).1 = 160
    · obtain ⟨q1, q2, q3, q4⟩ := d5 h160
      rw [h160, q4, esc_160 (by rw [data_len]; omega) q1 (by rw [atB_dgt]; exact q2)]
      exact .inr ⟨by decide +revert, by decide +revert, by decide, by decide, by omega, by omega, by cases v <;> rfl⟩
    · have hf : forN ((Utf8.decode s k).1 : Int) v = [] := by
        unfold forN
        rw [if_neg (by omega), if_neg (by omega), if_neg (by omega), if_neg (by omega), if_neg (by omega)]
      refine .inl ⟨hf, d2, by omega, esc_run v s.data.toList _ k (by rw [data_len]; omega) (fun j hj => ?_)⟩
      rw [atB_dgt]
      have hj4 : j = 0 ∨ j = 1 ∨ j = 2 ∨ j = 3 := by omega
      rcases hj4 with rfl | rfl | rfl | rfl
      · refine ⟨by rw [Nat.add_zero]; omega, fun h => ?_⟩
        rw [Nat.add_zero] at h
        by_cases hn : 1 < s.size - k
        · exact h160 (by rw [hnb h.1 h.2 hn])
        · have : dgt s.data.toList (k + 1) = 0 := by
            unfold dgt; rw [List.getD, List.getElem?_eq_none (by rw [data_len]; omega)]; rfl
          omega
      · have := d6 hj; exact ⟨by omega, by omega⟩
      · have := d7 hj; exact ⟨by omega, by omega⟩
      · have := d8 hj; exact ⟨by omega, by omega⟩
end Go.Proofs.YtpfnjgkfombmpaaDoor

/-
  What the methods of strings.Builder do that the program calls: the library's contracts, laid at this program: the builder holds the bytes that were written, one behind the other, and tells them.
-/
namespace Go.Proofs.YtpfnjgkfombmpaaDoor
open Go.RowKit
set_option linter.unusedVariables false

def Tryd.renB : Go.Shelf.Ren := ⟨fun | 166 => 42 | 169 => 43 | 240 => 69 | 276 => 92 | n => n,
  fun | 0 => 0 | 3 => 3 | 4 => 4 | 5 => 5 | 9 => 9 | 20 => 20 | 37 => 60 | 70 => 59 | 72 => 62 | 75 => 65 | 80 => 69 | 127 => 98 | 164 => 115 | n => n,
  fun n => n⟩

theorem Tryd.lays166 : Go.Proofs.Lays.n166 Tryd.prog Tryd.renB where
  mixed := by kernel_rfl
  f166 := Tryd.func42.trans (congrArg some (by kernel_rfl))
  f240 := Tryd.func69.trans (congrArg some (by kernel_rfl))
  f276 := Tryd.func92.trans (congrArg some (by kernel_rfl))
  t0 := Tryd.underlying0
  a0 := Tryd.isAgg0
  z0 := Tryd.sizeOf0
  v0 := Tryd.zeroValue0
  t3 := Tryd.underlying3
  a3 := Tryd.isAgg3
  z3 := Tryd.sizeOf3
  v3 := Tryd.zeroValue3
  t4 := Tryd.underlying4
  a4 := Tryd.isAgg4
  z4 := Tryd.sizeOf4
  v4 := Tryd.zeroValue4
  t9 := Tryd.underlying9
  a9 := Tryd.isAgg9
  z9 := Tryd.sizeOf9
  v9 := Tryd.zeroValue9
  t20 := Tryd.underlying20
  a20 := Tryd.isAgg20
  z20 := Tryd.sizeOf20
  v20 := Tryd.zeroValue20
  t37 := Tryd.underlying60
  a37 := Tryd.isAgg60
  z37 := Tryd.sizeOf60
  v37 := Tryd.zeroValue60
  t70 := Tryd.underlying59
  a70 := Tryd.isAgg59
  z70 := Tryd.sizeOf59
  v70 := Tryd.zeroValue59
  t72 := Tryd.underlying62
  a72 := Tryd.isAgg62
  z72 := Tryd.sizeOf62
  v72 := Tryd.zeroValue62
  t75 := Tryd.underlying65
  a75 := Tryd.isAgg65
  z75 := Tryd.sizeOf65
  v75 := Tryd.zeroValue65
  t164 := Tryd.underlying115
  a164 := Tryd.isAgg115
  z164 := Tryd.sizeOf115
  v164 := Tryd.zeroValue115
theorem Tryd.lays169 : Go.Proofs.Lays.n169 Tryd.prog Tryd.renB where
  mixed := by kernel_rfl
  f169 := Tryd.func43.trans (congrArg some (by kernel_rfl))
  t0 := Tryd.underlying0
  a0 := Tryd.isAgg0
  z0 := Tryd.sizeOf0
  v0 := Tryd.zeroValue0
  t3 := Tryd.underlying3
  a3 := Tryd.isAgg3
  z3 := Tryd.sizeOf3
  v3 := Tryd.zeroValue3
  t9 := Tryd.underlying9
  a9 := Tryd.isAgg9
  z9 := Tryd.sizeOf9
  v9 := Tryd.zeroValue9
  t37 := Tryd.underlying60
  a37 := Tryd.isAgg60
  z37 := Tryd.sizeOf60
  v37 := Tryd.zeroValue60
  t70 := Tryd.underlying59
  a70 := Tryd.isAgg59
  z70 := Tryd.sizeOf59
  v70 := Tryd.zeroValue59
  t72 := Tryd.underlying62
  a72 := Tryd.isAgg62
  z72 := Tryd.sizeOf62
  v72 := Tryd.zeroValue62
  t127 := Tryd.underlying98
  a127 := Tryd.isAgg98
  z127 := Tryd.sizeOf98
  v127 := Tryd.zeroValue98
theorem Tryd.extraB : Builder.Extra Tryd.prog Tryd.renB where
  sizeBuilder := by kernel_rfl
  liesBuilder := by kernel_rfl
  t5 := Tryd.underlying5
  a5 := Tryd.isAgg5
  z5 := Tryd.sizeOf5
  v5 := Tryd.zeroValue5
  infoByte := by kernel_rfl
  cellsByte := by kernel_rfl
  sizeByte := by kernel_rfl
  neB5 := by decide

def Bld (B b : Nat) (l : List UInt8) (w : World) : Prop := Lib.IsBuilder 62 5 B b (Lib.byteCells l) w

theorem writeString_any (B b : Nat) (l : List UInt8) (s : ByteArray) (w : World) (h : Bld B b l w) (hlen : l.length + s.size ≤ 140737488355328) (hBw : B ≤ w.heap.size) :
    Calls Tryd.prog 42 #[.pointer (some ⟨b, 0, none⟩), .string s] w fun e w' => e = .returned (.tuple #[.int .i64 s.size, .nilIface]) ∧ Bld B b (l ++ s.data.toList) w' ∧ Below B w w' := by
  refine (Any.Builder_WriteString Tryd.lays166 Tryd.extraB B b (Lib.byteCells l) s w h (by rw [Lib.byteCells_length]; exact hlen) hBw).mono ?_
  rintro e w' ⟨he, hb, hbl⟩
  refine ⟨he, .inr ?_, hbl⟩
  rw [Lib.byteCells_append, ← Lib.strCells_eq]
  exact hb

theorem string_any (B b : Nat) (l : List UInt8) (w : World) (h : Bld B b l w) (h0 : l ≠ []) :
    Calls Tryd.prog 43 #[.pointer (some ⟨b, 0, none⟩)] w fun e w' => e = .returned (.string ⟨l.toArray⟩) ∧ Below B w w' :=
  Any.Builder_String Tryd.lays169 Tryd.extraB B b l w h h0

theorem string_nil (b : Nat) (p : Value) (w : World) (hbk : w.heap[b]? = some (.cells #[p, .slice none 0 0] 62 (0, 0))) :
    Calls Tryd.prog 43 #[.pointer (some ⟨b, 0, none⟩)] w fun e w' => e = .returned (.string ⟨#[]⟩) ∧ Below w.heap.size w w' :=
  Any.Builder_String_nil Tryd.lays169 Tryd.extraB w.heap.size b p w hbk

theorem bld_below {B b : Nat} {l : List UInt8} {w w1 : World} (h : Bld B b l w) (hb : Below w.heap.size w w1) : Bld B b l w1 := by
  have one : ∀ p, Lib.BuilderAt 62 5 B b p (Lib.byteCells l) w → Lib.BuilderAt 62 5 B b p (Lib.byteCells l) w1 := by
    intro p h
    have hlt := h.lt
    obtain ⟨hB, v, hbk, hown, hne⟩ := h
    refine ⟨hB, v, (hb.block b hlt).trans hbk, ?_, hne⟩
    obtain ⟨hl, h⟩ := hown
    refine ⟨hl, ?_⟩
    rcases h with h | ⟨g, cap, cur, h1, h2, h3, h4⟩
    · exact .inl h
    · refine .inr ⟨g, cap, cur, h1, h2, ?_, h4⟩
      have hg : g < w.heap.size := by
        rcases Nat.lt_or_ge g w.heap.size with h | h
        · exact h
        · rw [Array.getElem?_eq_none h] at h3; cases h3
      rw [hb.block g hg]; exact h3
  rcases h with h | h
  · exact .inl (one _ h)
  · exact .inr (one _ h)

theorem bld_new (w : World) : Bld w.heap.size w.heap.size [] (w.alloc (.cells #[.pointer none, .slice none 0 0] 62)) := by
  refine .inl ⟨Nat.le_refl _, .slice none 0 0, ?_, World.ownsRow_nil _ _ _ _, by simp [Value.ownBlock]⟩
  exact heap_alloc_new _ _
end Go.Proofs.YtpfnjgkfombmpaaDoor

/-
  What the methods of strings.Builder do that the program calls, with the frame that reaches above the builder: the library's contracts, laid at this program.
-/
namespace Go.Proofs.YtpfnjgkfombmpaaDoor
open Go.RowKit
set_option linter.unusedVariables false

def BldF (B b : Nat) (l : List UInt8) (w : World) : Prop := Lib.IsBuilderF 62 5 B b (Lib.byteCells l) w
def Oth (b : Nat) (w w' : World) : Prop := Lib.OthersKept 5 (some b) w w'

theorem writeStringK (B b : Nat) (l : List UInt8) (s : ByteArray) (w : World) (h : BldF B b l w) (hlen : l.length + s.size ≤ 140737488355328) (hBw : B ≤ w.heap.size) :
    Calls Tryd.prog 42 #[.pointer (some ⟨b, 0, none⟩), .string s] w fun e w' => e = .returned (.tuple #[.int .i64 s.size, .nilIface]) ∧ BldF B b (l ++ s.data.toList) w' ∧ Below B w w' ∧ Oth b w w' := by
  refine (Any.Builder_WriteString_k Tryd.lays166 Tryd.extraB B b (Lib.byteCells l) s w h (by rw [Lib.byteCells_length]; exact hlen) hBw).mono ?_
  rintro e w' ⟨he, hb, hbl, ho⟩
  refine ⟨he, .inr ?_, hbl, ho⟩
  rw [Lib.byteCells_append, ← Lib.strCells_eq]
  exact hb

theorem stringK (B b : Nat) (l : List UInt8) (w : World) (h : BldF B b l w) (hBw : B ≤ w.heap.size) :
    Calls Tryd.prog 43 #[.pointer (some ⟨b, 0, none⟩)] w fun e w' => e = .returned (.string (bs l)) ∧ Below B w w' := by
  refine (Any.Builder_String_any_k Tryd.lays169 Tryd.extraB B b l w h hBw).mono ?_
  rintro e w' ⟨he, _, hbl, _⟩
  exact ⟨he, hbl⟩

theorem bldF_below {B b : Nat} {l : List UInt8} {w w1 : World} (h : BldF B b l w) (hb : Below w.heap.size w w1) : BldF B b l w1 := by
  have one : ∀ p, Lib.BuilderAtF 62 5 B b p (Lib.byteCells l) w → Lib.BuilderAtF 62 5 B b p (Lib.byteCells l) w1 := by
    intro p h
    have hlt := h.lt
    obtain ⟨hB, v, hbk, hown, hne⟩ := h
    refine ⟨hB, v, (hb.block b hlt).trans hbk, ?_, hne⟩
    obtain ⟨hl, h⟩ := hown
    refine ⟨hl, ?_⟩
    rcases h with h | ⟨g, cap, cur, fz, h1, h2, h3, h4⟩
    · exact .inl h
    · refine .inr ⟨g, cap, cur, fz, h1, h2, ?_, h4⟩
      have hg : g < w.heap.size := by
        rcases Nat.lt_or_ge g w.heap.size with h | h
        · exact h
        · rw [Array.getElem?_eq_none h] at h3; cases h3
      rw [hb.block g hg]; exact h3
  rcases h with h | h
  · exact .inl (one _ h)
  · exact .inr (one _ h)
theorem bldF_new (w : World) : BldF w.heap.size w.heap.size [] (w.alloc (.cells #[.pointer none, .slice none 0 0] 62)) := Lib.IsBuilderF.of (bld_new w)
theorem bldF_alloc {B b : Nat} {l : List UInt8} {w : World} (h : BldF B b l w) (o : Obj) : BldF B b l (w.alloc o) := Lib.IsBuilderF.alloc h o
theorem bldF_iter {B b : Nat} {l : List UInt8} {w : World} (h : BldF B b l w) {k : Nat} {s : ByteArray} {pos : Nat} (hk : w.heap[k]? = some (.stringIter s pos)) (pos' : Nat) : BldF B b l (w.iterAt k s pos') := Lib.IsBuilderF.iterAt h hk pos'
theorem oth_iter {b : Nat} {w w' : World} (h : Oth b w w') {k : Nat} {s : ByteArray} {pos : Nat} (hk : w.heap[k]? = some (.stringIter s pos)) (hkb : k ≠ b) : w'.heap[k]? = some (.stringIter s pos) := Lib.OthersKept.iter h hk hkb
theorem iter_keeps {w w' : World} (h : Below w.heap.size w w') {k : Nat} {s : ByteArray} {pos : Nat} (hk : w.heap[k]? = some (.stringIter s pos)) : w'.heap[k]? = some (.stringIter s pos) := by
  have hlt : k < w.heap.size := by
    rcases Nat.lt_or_ge k w.heap.size with h | h
    · exact h
    · rw [Array.getElem?_eq_none h] at hk; cases hk
  rw [h.block k hlt]; exact hk
end Go.Proofs.YtpfnjgkfombmpaaDoor

/-
  What 'refs.numberAt' does: the number of the reference with which a text begins, and how many bytes that has.
-/
namespace Go.Proofs.YtpfnjgkfombmpaaDoor
open Go.RowKit
set_option linter.unusedVariables false

def digOk (base : Nat) (b : Nat) : Bool := decide (0 ≤ digV b ∧ digV b < (base : Int))
def numG (base : Nat) : Nat → List UInt8 → Nat × Nat
  | n, [] => (n, 0)
  | n, c :: l => if digOk base c.toNat = true then ((numG base (min (n * base + (digV c.toNat).toNat) 1114112) l).1, (numG base (min (n * base + (digV c.toNat).toNat) 1114112) l).2 + 1) else (n, 0)
theorem numG_yes {base n k : Nat} {l : List UInt8} (hk : k < l.length) (h : digOk base (dgt l k) = true) : numG base n (l.drop k) = ((numG base (min (n * base + (digV (dgt l k)).toNat) 1114112) (l.drop (k + 1))).1, (numG base (min (n * base + (digV (dgt l k)).toNat) 1114112) (l.drop (k + 1))).2 + 1) := by
  obtain ⟨c, hc, hn⟩ := drop_at l k hk
  rw [hc, numG, hn, if_pos h]
theorem numG_no {base n k : Nat} {l : List UInt8} (hk : k < l.length) (h : digOk base (dgt l k) = false) : numG base n (l.drop k) = (n, 0) := by
  obtain ⟨c, hc, hn⟩ := drop_at l k hk
  rw [hc, numG, hn, if_neg (by rw [h]; decide)]
theorem numG_end {base n k : Nat} {l : List UInt8} (hk : l.length ≤ k) : numG base n (l.drop k) = (n, 0) := by
  rw [List.drop_eq_nil_of_le hk, numG]

/-- What numberAt answers, of the base and the place of the first digit. -/
def numEnd (l : List UInt8) (fr : Nat) (r : Nat × Nat) : Int × Int := if r.2 = 0 then (0, 0) else ((r.1 : Int), ((fr + r.2 + semiN (l.drop (fr + r.2)) : Nat) : Int))
def isHex (l : List UInt8) : Bool := decide (2 < l.length ∧ (dgt l 2 = 120 ∨ dgt l 2 = 88))
def numAt (l : List UInt8) : Int × Int :=
  if [38, 35].isPrefixOf l = true then (if isHex l = true then numEnd l 3 (numG 16 0 (l.drop 3)) else numEnd l 2 (numG 10 0 (l.drop 2))) else (0, 0)
def numV (l : List UInt8) : Value := .tuple #[.int .i64 (numAt l).1, .int .i64 (numAt l).2]
theorem numEnd_0 (l : List UInt8) (fr n : Nat) : numEnd l fr (n, 0) = (0, 0) := by simp [numEnd]
theorem numEnd_1 (l : List UInt8) (fr n k : Nat) (h : 0 < k) : numEnd l fr (n, k) = ((n : Int), ((fr + k + semiN (l.drop (fr + k)) : Nat) : Int)) := by
  unfold numEnd; rw [if_neg (by simp; omega)]

theorem pre2 (s : ByteArray) (w : World) : Calls Tryd.prog 74 #[.string s, .string ⟨#[38, 35]⟩] w fun e w' => e = .returned (.bool ([38, 35].isPrefixOf s.data.toList)) ∧ w' = w := hasPrefix_any s ⟨#[38, 35]⟩ w
theorem pre2_len {l : List UInt8} (h : [38, 35].isPrefixOf l = true) : 2 ≤ l.length := by
  have := (List.isPrefixOf_iff_prefix.1 h).length_le
  simpa using this

end Go.Proofs.YtpfnjgkfombmpaaDoor

/-
  What 'refs.numberAt' does: the number of the reference with which a text begins, and how many bytes that has.
-/
namespace Go.Proofs.YtpfnjgkfombmpaaDoor
open Go.RowKit
set_option linter.unusedVariables false

end Go.Proofs.YtpfnjgkfombmpaaDoor

/-
  What 'refs.numberAt' does: the number of the reference with which a text begins, and how many bytes that has.
-/
namespace Go.Proofs.YtpfnjgkfombmpaaDoor
open Go.RowKit
set_option linter.unusedVariables false

end Go.Proofs.YtpfnjgkfombmpaaDoor

/-
  What 'refs.numberAt' does: the number of the reference with which a text begins, and how many bytes that has.
-/
namespace Go.Proofs.YtpfnjgkfombmpaaDoor
open Go.RowKit
set_option linter.unusedVariables false

end Go.Proofs.YtpfnjgkfombmpaaDoor

/-
  What 'refs.numberAt' does: the number of the reference with which a text begins, and how many bytes that has.
-/
namespace Go.Proofs.YtpfnjgkfombmpaaDoor
open Go.RowKit
set_option linter.unusedVariables false

end Go.Proofs.YtpfnjgkfombmpaaDoor

/-
  What 'refs.bytesOf' and 'refs.nameAt' do: the longest reference by a name with which a text begins.
-/
namespace Go.Proofs.YtpfnjgkfombmpaaDoor
open Go.RowKit
set_option linter.unusedVariables false

def entry (k : Nat) : Value := .agg #[.string (bs (nmName k)), .int .i64 (nmChar k), .bool (nmBare k)]
/-- What the first k names give: the character and the bytes of the longest reference so far. -/
def Best (m : List UInt8) (v : Bool) (k : Nat) (c : Int) (n : Nat) : Prop :=
  (n = 0 ∧ c = 0 ∧ ∀ j, j < k → candN j m v = 0) ∨ (0 < n ∧ ∃ i, i < k ∧ candN i m v = n ∧ c = nmChar i ∧ ∀ j, j < k → candN j m v ≤ n)
theorem best_more {m : List UInt8} {v : Bool} {k : Nat} {c : Int} {n : Nat} (h : Best m v k c n) (hn : n < candN k m v) : Best m v (k + 1) (nmChar k) (candN k m v) := by
  refine .inr ⟨by omega, k, by omega, rfl, rfl, fun j hj => ?_⟩
  by_cases e : j = k
  · rw [e]; exact Nat.le_refl _
  · rcases h with ⟨_, _, h⟩ | ⟨_, i, _, _, _, h⟩
    · have := h j (by omega); omega
    · have := h j (by omega); omega
theorem best_same {m : List UInt8} {v : Bool} {k : Nat} {c : Int} {n : Nat} (h : Best m v k c n) (hn : ¬ n < candN k m v) : Best m v (k + 1) c n := by
  rcases h with ⟨h1, h2, h⟩ | ⟨h0, i, h1, h2, h3, h⟩
  · refine .inl ⟨h1, h2, fun j hj => ?_⟩
    by_cases e : j = k
    · rw [e]; omega
    · exact h j (by omega)
  · refine .inr ⟨h0, i, by omega, h2, h3, fun j hj => ?_⟩
    by_cases e : j = k
    · rw [e]; omega
    · exact h j (by omega)
theorem cand_le (k : Nat) (m : List UInt8) (v : Bool) (h : k < 28) : candN k m v ≤ 8 := by
  have := (nm_facts k h).2.1
  unfold candN
  repeat' split
  all_goals omega
theorem best_le {m : List UInt8} {v : Bool} {k : Nat} {c : Int} {n : Nat} (hk : k ≤ 28) (h : Best m v k c n) : n ≤ 8 := by
  rcases h with ⟨h1, _⟩ | ⟨_, i, h1, h2, _⟩
  · omega
  · have := cand_le i m v (by omega); omega

def bestF (m : List UInt8) (v : Bool) : Nat → Int × Nat
  | 0 => (0, 0)
  | k + 1 => if (bestF m v k).2 < candN k m v then (nmChar k, candN k m v) else bestF m v k
/-- The longest reference by the first k names, and that it is the longest. -/
def BF (m : List UInt8) (v : Bool) (k : Nat) (c : Int) (n : Nat) : Prop := Best m v k c n ∧ bestF m v k = (c, n)
theorem bf_more {m : List UInt8} {v : Bool} {k : Nat} {c : Int} {n : Nat} (h : BF m v k c n) (hn : n < candN k m v) : BF m v (k + 1) (nmChar k) (candN k m v) :=
  ⟨best_more h.1 hn, by rw [bestF, h.2, if_pos hn]⟩
theorem bf_same {m : List UInt8} {v : Bool} {k : Nat} {c : Int} {n : Nat} (h : BF m v k c n) (hn : ¬ n < candN k m v) : BF m v (k + 1) c n :=
  ⟨best_same h.1 hn, by rw [bestF, h.2, if_neg hn]⟩

end Go.Proofs.YtpfnjgkfombmpaaDoor

/-
  What 'utf.Bytes' does: of every number its bytes, where the two tables hold what their text says.
-/
namespace Go.Proofs.YtpfnjgkfombmpaaDoor
open Go.RowKit
set_option linter.unusedVariables false

theorem make_1 (w : World) : (Instr.makeSlice 60 (.int .i64 1) (.int .i64 1)).run Tryd.prog w = .ok (.slice (some ⟨w.heap.size, 0, none⟩) 1 1) (w.alloc (.cells #[.int .u8 0] 5)) := by kernel_rfl

theorem make_2 (w : World) : (Instr.makeSlice 60 (.int .i64 2) (.int .i64 2)).run Tryd.prog w = .ok (.slice (some ⟨w.heap.size, 0, none⟩) 2 2) (w.alloc (.cells #[.int .u8 0, .int .u8 0] 5)) := by kernel_rfl

theorem make_3 (w : World) : (Instr.makeSlice 60 (.int .i64 3) (.int .i64 3)).run Tryd.prog w = .ok (.slice (some ⟨w.heap.size, 0, none⟩) 3 3) (w.alloc (.cells #[.int .u8 0, .int .u8 0, .int .u8 0] 5)) := by kernel_rfl

theorem make_4 (w : World) : (Instr.makeSlice 60 (.int .i64 4) (.int .i64 4)).run Tryd.prog w = .ok (.slice (some ⟨w.heap.size, 0, none⟩) 4 4) (w.alloc (.cells #[.int .u8 0, .int .u8 0, .int .u8 0, .int .u8 0] 5)) := by kernel_rfl

theorem ubx_1 {c : Int} (hp : 0 ≤ c) (h1 : c < 128) : [c] = ubI c := by rw [ubI_1 h1]

set_option maxHeartbeats 400000 in
theorem bytes_1 (c : Int) (w : World) (ht : Tabs w) (hc : isC c = true) (h1 : c < 128) :
    Calls Tryd.prog 71 #[.int .i64 c] w fun e w' => e = .returned (.string (str (ubI c))) ∧ Below w.heap.size w w' := by
  have hr := isC_true hc
  obtain ⟨lt0, lt1⟩ := ht.lt
  have HT := hide ht
  obtain ⟨t1, t2, t3, t4, _⟩ := ht
  have hp : 0 ≤ c := hr.1
  have hm : c ≤ 1114111 := hr.2.1
  have C0 := hide (isChar_any c)
  rw [hc] at C0
  have C1 := hide (fun w (h : Tabs w) => size_any c w hp hm h)
  rw [sz_1 h1] at C1
  have E := hide (ubx_1 hp h1)
  have hmk := make_1 w
  have hcv : Sem.run Tryd.prog (convert 60 9 (Value.slice (some { block := w.heap.size, off := 0 }) 1 1)) (w.alloc (Obj.cells #[.int .u8 (c)] 5)) = .ok (.string (str [c])) (w.alloc (Obj.cells #[.int .u8 (c)] 5)) := convL w w.heap.size [c] rfl
  clear hr hc
  go_enter Tryd.func71, Tryd.ntmps71
  go_wp2_with fail
  refine (unhide C0 _).mono ?_
  rintro e w1 ⟨rfl, rfl⟩
  go_wp2_with fail
  refine (unhide C1 _ (unhide HT)).mono ?_
  rintro e w1 ⟨rfl, rfl⟩
  go_wp2
  refine wp_loop_rounds 1 ?_
  rw [rounds_succ]; go_wp2
  go_ret
  exact ⟨ret1 (congrArg (fun l => Value.string (str l)) (unhide E)), (Below.refl _ _).alloc (Nat.le_refl _) _⟩

theorem ubx_2 {c : Int} (hp : 0 ≤ c) (h0 : 128 ≤ c) (h1 : c < 2048) : [192 + c / 64, 128 + c % 64] = ubI c := by
  rw [ubI_2 h0 h1]

set_option maxHeartbeats 400000 in
theorem bytes_2 (c : Int) (w : World) (ht : Tabs w) (hc : isC c = true) (h0 : 128 ≤ c) (h1 : c < 2048) :
    Calls Tryd.prog 71 #[.int .i64 c] w fun e w' => e = .returned (.string (str (ubI c))) ∧ Below w.heap.size w w' := by
  have hr := isC_true hc
  obtain ⟨lt0, lt1⟩ := ht.lt
  have HT := hide ht
  obtain ⟨t1, t2, t3, t4, _⟩ := ht
  have hp : 0 ≤ c := hr.1
  have hm : c ≤ 1114111 := hr.2.1
  have C0 := hide (isChar_any c)
  rw [hc] at C0
  have C1 := hide (fun w (h : Tabs w) => size_any c w hp hm h)
  rw [sz_2 h0 h1] at C1
  have E := hide (ubx_2 hp h0 h1)
  have hmk := make_2 w
  have hcv : Sem.run Tryd.prog (convert 60 9 (Value.slice (some { block := w.heap.size, off := 0 }) 2 2)) (w.alloc (Obj.cells #[.int .u8 (192 + c / 64), .int .u8 (128 + c % 64)] 5)) = .ok (.string (str [192 + c / 64, 128 + c % 64])) (w.alloc (Obj.cells #[.int .u8 (192 + c / 64), .int .u8 (128 + c % 64)] 5)) := convL w w.heap.size [192 + c / 64, 128 + c % 64] rfl
  clear hr hc
  go_enter Tryd.func71, Tryd.ntmps71
  go_wp2_with fail
  refine (unhide C0 _).mono ?_
  rintro e w1 ⟨rfl, rfl⟩
  go_wp2_with fail
  refine (unhide C1 _ (unhide HT)).mono ?_
  rintro e w1 ⟨rfl, rfl⟩
  go_wp2
  refine wp_loop_rounds 2 ?_
  rw [rounds_succ]; go_wp2
  rw [rounds_succ]; go_wp2
  go_ret
  exact ⟨ret1 (congrArg (fun l => Value.string (str l)) (unhide E)), (Below.refl _ _).alloc (Nat.le_refl _) _⟩

theorem ubx_3 {c : Int} (hp : 0 ≤ c) (h0 : 2048 ≤ c) (h1 : c < 65536) : [224 + c / 64 / 64, 128 + c / 64 % 64, 128 + c % 64] = ubI c := by
  rw [ubI_3 h0 h1]
  simp only [List.cons.injEq, and_true]
  omega

set_option maxHeartbeats 400000 in
theorem bytes_3 (c : Int) (w : World) (ht : Tabs w) (hc : isC c = true) (h0 : 2048 ≤ c) (h1 : c < 65536) :
    Calls Tryd.prog 71 #[.int .i64 c] w fun e w' => e = .returned (.string (str (ubI c))) ∧ Below w.heap.size w w' := by
  have hr := isC_true hc
  obtain ⟨lt0, lt1⟩ := ht.lt
  have HT := hide ht
  obtain ⟨t1, t2, t3, t4, _⟩ := ht
  have hp : 0 ≤ c := hr.1
  have hm : c ≤ 1114111 := hr.2.1
  have C0 := hide (isChar_any c)
  rw [hc] at C0
  have C1 := hide (fun w (h : Tabs w) => size_any c w hp hm h)
  rw [sz_3 h0 h1] at C1
  have E := hide (ubx_3 hp h0 h1)
  have hmk := make_3 w
  have hcv : Sem.run Tryd.prog (convert 60 9 (Value.slice (some { block := w.heap.size, off := 0 }) 3 3)) (w.alloc (Obj.cells #[.int .u8 (224 + c / 64 / 64), .int .u8 (128 + c / 64 % 64), .int .u8 (128 + c % 64)] 5)) = .ok (.string (str [224 + c / 64 / 64, 128 + c / 64 % 64, 128 + c % 64])) (w.alloc (Obj.cells #[.int .u8 (224 + c / 64 / 64), .int .u8 (128 + c / 64 % 64), .int .u8 (128 + c % 64)] 5)) := convL w w.heap.size [224 + c / 64 / 64, 128 + c / 64 % 64, 128 + c % 64] rfl
  clear hr hc
  go_enter Tryd.func71, Tryd.ntmps71
  go_wp2_with fail
  refine (unhide C0 _).mono ?_
  rintro e w1 ⟨rfl, rfl⟩
  go_wp2_with fail
  refine (unhide C1 _ (unhide HT)).mono ?_
  rintro e w1 ⟨rfl, rfl⟩
  go_wp2
  refine wp_loop_rounds 3 ?_
  rw [rounds_succ]; go_wp2
  rw [rounds_succ]; go_wp2
  rw [rounds_succ]; go_wp2
  go_ret
  exact ⟨ret1 (congrArg (fun l => Value.string (str l)) (unhide E)), (Below.refl _ _).alloc (Nat.le_refl _) _⟩

theorem ubx_4 {c : Int} (hp : 0 ≤ c) (h0 : 65536 ≤ c) : [240 + c / 64 / 64 / 64, 128 + c / 64 / 64 % 64, 128 + c / 64 % 64, 128 + c % 64] = ubI c := by
  rw [ubI_4 h0]
  simp only [List.cons.injEq, and_true]
  omega

set_option maxHeartbeats 400000 in
theorem bytes_4 (c : Int) (w : World) (ht : Tabs w) (hc : isC c = true) (h0 : 65536 ≤ c) :
    Calls Tryd.prog 71 #[.int .i64 c] w fun e w' => e = .returned (.string (str (ubI c))) ∧ Below w.heap.size w w' := by
  have hr := isC_true hc
  obtain ⟨lt0, lt1⟩ := ht.lt
  have HT := hide ht
  obtain ⟨t1, t2, t3, t4, _⟩ := ht
  have hp : 0 ≤ c := hr.1
  have hm : c ≤ 1114111 := hr.2.1
  have C0 := hide (isChar_any c)
  rw [hc] at C0
  have C1 := hide (fun w (h : Tabs w) => size_any c w hp hm h)
  rw [sz_4 h0] at C1
  have E := hide (ubx_4 hp h0)
  have hmk := make_4 w
  have hcv : Sem.run Tryd.prog (convert 60 9 (Value.slice (some { block := w.heap.size, off := 0 }) 4 4)) (w.alloc (Obj.cells #[.int .u8 (240 + c / 64 / 64 / 64), .int .u8 (128 + c / 64 / 64 % 64), .int .u8 (128 + c / 64 % 64), .int .u8 (128 + c % 64)] 5)) = .ok (.string (str [240 + c / 64 / 64 / 64, 128 + c / 64 / 64 % 64, 128 + c / 64 % 64, 128 + c % 64])) (w.alloc (Obj.cells #[.int .u8 (240 + c / 64 / 64 / 64), .int .u8 (128 + c / 64 / 64 % 64), .int .u8 (128 + c / 64 % 64), .int .u8 (128 + c % 64)] 5)) := convL w w.heap.size [240 + c / 64 / 64 / 64, 128 + c / 64 / 64 % 64, 128 + c / 64 % 64, 128 + c % 64] rfl
  clear hr hc
  go_enter Tryd.func71, Tryd.ntmps71
  go_wp2_with fail
  refine (unhide C0 _).mono ?_
  rintro e w1 ⟨rfl, rfl⟩
  go_wp2_with fail
  refine (unhide C1 _ (unhide HT)).mono ?_
  rintro e w1 ⟨rfl, rfl⟩
  go_wp2
  refine wp_loop_rounds 4 ?_
  rw [rounds_succ]; go_wp2
  rw [rounds_succ]; go_wp2
  rw [rounds_succ]; go_wp2
  rw [rounds_succ]; go_wp2
  go_ret
  exact ⟨ret1 (congrArg (fun l => Value.string (str l)) (unhide E)), (Below.refl _ _).alloc (Nat.le_refl _) _⟩

set_option maxHeartbeats 400000 in
theorem bytes_none (c : Int) (w : World) (ht : Tabs w) (hc : isC c = false) :
    Calls Tryd.prog 71 #[.int .i64 c] w fun e w' => e = .returned (.string (str (ubI 65533))) ∧ Below w.heap.size w w' := by
  obtain ⟨lt0, lt1⟩ := ht.lt
  have HT := hide ht
  obtain ⟨t1, t2, t3, t4, _⟩ := ht
  have C0 := hide (isChar_any c)
  rw [hc] at C0
  have C1 := hide (fun w (h : Tabs w) => size_any 65533 w (by omega) (by omega) h)
  rw [show sz 65533 = 3 from rfl] at C1
  have hmk := make_3 w
  have hcv : Sem.run Tryd.prog (convert 60 9 (Value.slice (some { block := w.heap.size, off := 0 }) 3 3)) (w.alloc (Obj.cells #[.int .u8 239, .int .u8 191, .int .u8 189] 5)) = .ok (.string (str [239, 191, 189])) (w.alloc (Obj.cells #[.int .u8 239, .int .u8 191, .int .u8 189] 5)) := convL w w.heap.size [239, 191, 189] rfl
  clear hc
  go_enter Tryd.func71, Tryd.ntmps71
  go_wp2_with fail
  refine (unhide C0 _).mono ?_
  rintro e w1 ⟨rfl, rfl⟩
  go_wp2_with fail
  refine (unhide C1 _ (unhide HT)).mono ?_
  rintro e w1 ⟨rfl, rfl⟩
  go_wp2
  refine wp_loop_rounds 3 ?_
  rw [rounds_succ]; go_wp2
  rw [rounds_succ]; go_wp2
  rw [rounds_succ]; go_wp2
  go_ret
  exact ⟨rfl, (Below.refl _ _).alloc (Nat.le_refl _) _⟩

theorem bytes_any (c : Int) (w : World) (ht : Tabs w) :
    Calls Tryd.prog 71 #[.int .i64 c] w fun e w' => e = .returned (.string (str (utfI c))) ∧ Below w.heap.size w w' := by
  cases hc : isC c with
  | false =>
    rw [utfI, hc, if_neg (by decide)]
    exact bytes_none c w ht hc
  | true =>
    rw [utfI, hc, if_pos rfl]
    rcases sz_cases c with ⟨h, _⟩ | ⟨hl, h, _⟩ | ⟨hl, h, _⟩ | ⟨hl, _⟩
    · exact bytes_1 c w ht hc h
    · exact bytes_2 c w ht hc hl h
    · exact bytes_3 c w ht hc hl h
    · exact bytes_4 c w ht hc hl
end Go.Proofs.YtpfnjgkfombmpaaDoor

/-
  What 'refs.At' does: what stands at a place of a text, and the place behind it.
-/
namespace Go.Proofs.YtpfnjgkfombmpaaDoor
open Go.RowKit
set_option linter.unusedVariables false

/-- What stands at the beginning of a text that isn't empty, and how many bytes it has; the longest name's character and bytes are handed in. -/
def atWith (l : List UInt8) (c : Int) (n : Nat) : List UInt8 × Int :=
  if ¬ dgt l 0 = 38 then (ub (step l).1, ((step l).2.1 : Int))
  else if 0 < (numAt l).2 then (ub (numC (numAt l).1), (numAt l).2)
  else if 0 < n then (ub c, (n : Int)) else ([38], 1)
/-- Some character and some number of bytes are the longest name's, and the answer is of these. -/
def AtIs (l : List UInt8) (v : Bool) (x : List UInt8) (m : Int) : Prop := ∃ c n, BF (l.drop 1) v 28 c n ∧ atWith l c n = (x, m)

theorem best_ex (m : List UInt8) (v : Bool) : ∀ k, ∃ c n, BF m v k c n
  | 0 => ⟨0, 0, .inl ⟨rfl, rfl, fun j hj => by omega⟩, rfl⟩
  | k + 1 => by
    obtain ⟨c, n, h⟩ := best_ex m v k
    by_cases hn : n < candN k m v
    · exact ⟨_, _, bf_more h hn⟩
    · exact ⟨_, _, bf_same h hn⟩
theorem numG_len (base : Nat) : ∀ (l : List UInt8) (n : Nat), (numG base n l).2 ≤ l.length
  | [], n => by simp [numG]
  | c :: l, n => by
    rw [numG]
    split
    · have := numG_len base l (min (n * base + (digV c.toNat).toNat) 1114112); simp; omega
    · simp
theorem numAt_le (l : List UInt8) : (numAt l).2 ≤ l.length + 4 := by
  unfold numAt
  split
  · split
    · have h1 := numG_len 16 (l.drop 3) 0
      have h2 := semi_le (l.drop (3 + (numG 16 0 (l.drop 3)).2))
      rw [List.length_drop] at h1
      unfold numEnd; split
      · simp; omega
      · simp only []; omega
    · have h1 := numG_len 10 (l.drop 2) 0
      have h2 := semi_le (l.drop (2 + (numG 10 0 (l.drop 2)).2))
      rw [List.length_drop] at h1
      unfold numEnd; split
      · simp; omega
      · simp only []; omega
  · simp; omega
theorem best_isC {m : List UInt8} {v : Bool} {c : Int} {n : Nat} (h : BF m v 28 c n) (hn : 0 < n) : isC c = true := by
  rcases h.1 with ⟨h1, _⟩ | ⟨_, i, hi, _, hc, _⟩
  · omega
  · rw [hc]; exact (nm_facts i hi).2.2.2.2
theorem bytesC (c : Int) (w : World) (ht : Tabs w) (h : isC c = true) : Calls Tryd.prog 71 #[.int .i64 c] w fun e w' => e = .returned (.string (bs (ub c))) ∧ Below w.heap.size w w' := by
  have := bytes_any c w ht
  rw [utfI, h, if_pos rfl] at this
  exact this

def atL (l : List UInt8) (v : Bool) : List UInt8 × Int := atWith l (bestF (l.drop 1) v 28).1 (bestF (l.drop 1) v 28).2
theorem atIs_eq {l : List UInt8} {v : Bool} {x : List UInt8} {m : Int} (h : AtIs l v x m) : atL l v = (x, m) := by
  obtain ⟨c, n, hb, h⟩ := h
  rw [atL, hb.2]; exact h
/-! ### how far it goes -/
theorem pre_len {a b : List UInt8} (h : a.isPrefixOf b = true) : a.length ≤ b.length := (List.isPrefixOf_iff_prefix.1 h).length_le
theorem semi_len (l : List UInt8) : semiN l ≤ l.length := by
  unfold semiN
  split
  · rename_i h; have := pre_len h; simpa using this
  · omega
theorem cand_len (k : Nat) (m : List UInt8) (v : Bool) : candN k m v ≤ m.length + 1 := by
  unfold candN
  split
  · rename_i h
    have h1 := pre_len h
    split
    · rename_i h2
      have h3 := semi_len (m.drop (nmName k).length)
      rw [List.length_drop] at h3; omega
    · split <;> omega
  · omega
theorem numAt_len (l : List UInt8) : (numAt l).2 ≤ l.length := by
  unfold numAt
  split
  · rename_i hp
    have hl := pre_len hp
    simp at hl
    split
    · rename_i hx
      have hx' : 2 < l.length ∧ (dgt l 2 = 120 ∨ dgt l 2 = 88) := by simpa [isHex] using hx
      have h1 := numG_len 16 (l.drop 3) 0
      have h2 := semi_len (l.drop (3 + (numG 16 0 (l.drop 3)).2))
      rw [List.length_drop] at h1 h2
      unfold numEnd; split
      · simp
      · simp only []; omega
    · have h1 := numG_len 10 (l.drop 2) 0
      have h2 := semi_len (l.drop (2 + (numG 10 0 (l.drop 2)).2))
      rw [List.length_drop] at h1 h2
      unfold numEnd; split
      · simp
      · simp only []; omega
  · simp
theorem at_bd {l : List UInt8} (v : Bool) (h : l ≠ []) : 1 ≤ (atL l v).2 ∧ (atL l v).2 ≤ l.length ∧ (atL l v).1.length ≤ 4 := by
  have hok := step_ok h
  have hl : 0 < l.length := List.length_pos_iff.2 h
  obtain ⟨c, n, hb⟩ := best_ex (l.drop 1) v 28
  rw [atL, hb.2]
  have hn : n ≤ l.length := by
    rcases hb.1 with ⟨h1, _⟩ | ⟨_, i, hi, hc, _⟩
    · omega
    · have := cand_len i (l.drop 1) v; rw [List.length_drop] at this; omega
  unfold atWith
  split
  · have := sz_le (step l).1
    simp only []; rw [ub_len]; omega
  · split
    · have := numAt_len l
      have := sz_le (numC (numAt l).1)
      simp only []; rw [ub_len]; omega
    · split
      · have := sz_le c
        simp only []; rw [ub_len]; omega
      · simp; omega
theorem at_ne {l : List UInt8} (v : Bool) (h : l ≠ []) : (atL l v).1 ≠ [] := by
  rw [atL]; unfold atWith
  have hu : ∀ c, ub c ≠ [] := fun c => by have := ub_ne c []; simpa using this
  split
  · exact hu _
  · split
    · exact hu _
    · split
      · exact hu _
      · simp

def allF (v : Bool) : Nat → List UInt8 → List UInt8
  | 0, _ => []
  | f + 1, l => if l = [] then [] else (atL l v).1 ++ allF v f (l.drop (atL l v).2.toNat)
def allL (v : Bool) (l : List UInt8) : List UInt8 := allF v l.length l
theorem allF_fuel (v : Bool) : ∀ (f g : Nat) (l : List UInt8), l.length ≤ f → l.length ≤ g → allF v f l = allF v g l
  | 0, 0, l, _, _ => rfl
  | 0, g + 1, l, h, _ => by
    have : l = [] := List.eq_nil_of_length_eq_zero (by omega)
    subst this; simp [allF]
  | f + 1, 0, l, _, h => by
    have : l = [] := List.eq_nil_of_length_eq_zero (by omega)
    subst this; simp [allF]
  | f + 1, g + 1, l, h1, h2 => by
    rw [allF, allF]
    by_cases e : l = []
    · rw [if_pos e, if_pos e]
    · have hb := at_bd v e
      rw [if_neg e, if_neg e, allF_fuel v f g _ (by rw [List.length_drop]; omega) (by rw [List.length_drop]; omega)]
theorem allL_nil (v : Bool) : allL v [] = [] := rfl
theorem allL_cons (v : Bool) {l : List UInt8} (h : l ≠ []) : allL v l = (atL l v).1 ++ allL v (l.drop (atL l v).2.toNat) := by
  have hb := at_bd v h
  have hl : 0 < l.length := List.length_pos_iff.2 h
  rw [allL, show l.length = (l.length - 1) + 1 from by omega, allF, if_neg h, allL]
  congr 1
  exact allF_fuel v _ _ _ (by rw [List.length_drop]; omega) (Nat.le_refl _)
end Go.Proofs.YtpfnjgkfombmpaaDoor

/-
  What 'refs.Escape' does: any text with references.
-/
namespace Go.Proofs.YtpfnjgkfombmpaaDoor
open Go.RowKit
set_option linter.unusedVariables false

theorem cut_cut (l : List UInt8) (a b n : Nat) (h : a ≤ b) : (l.drop a).take (b - a) ++ (l.drop b).take n = (l.drop a).take (b + n - a) := by
  have e : l.drop b = (l.drop a).drop (b - a) := by rw [List.drop_drop]; congr 1; omega
  rw [e, show b + n - a = (b - a) + n by omega, List.take_add]
theorem bs_ne {l : List UInt8} (h : l ≠ []) : ¬ bs l = ByteArray.empty := by
  intro e; apply h; have := congrArg (fun x : ByteArray => x.data.toList) e; simpa [bs_toList] using this
theorem amp_bs : (⟨#[38]⟩ : ByteArray) = bs [38] := rfl
theorem semi_bs : (⟨#[59]⟩ : ByteArray) = bs [59] := rfl

set_option maxHeartbeats 4000000 in
theorem escape_any (s : ByteArray) (v : Bool) (w : World) (ht : Tabs w) (hs : s.size ≤ 100000) :
    Calls Tryd.prog 45 #[.string s, .bool v] w fun e w' => e = .returned (.string (bs (escL v s.data.toList))) ∧ Below w.heap.size w w' := by
  have HT := hide ht
  have hI0 : BldF w.heap.size w.heap.size [] ((w.alloc (.cells #[.pointer none, .slice none 0 0] 62)).iter s 0) := bldF_alloc (bldF_new w) _
  have hk0 : ((w.alloc (.cells #[.pointer none, .slice none 0 0] 62)).iter s 0).heap[w.heap.size + 1]? = some (.stringIter s 0) := by
    have h5 := World.iter_heap (w.alloc (.cells #[.pointer none, .slice none 0 0] 62)) s 0
    simpa using h5
  have hb0 : Below w.heap.size w ((w.alloc (.cells #[.pointer none, .slice none 0 0] 62)).iter s 0) := ((Below.refl _ w).alloc (Nat.le_refl _) _).alloc (by simp) _
  clear ht
  go_enter Tryd.func45, Tryd.ntmps45
  go_wp2
  go_loopw [6] (fun i wr => ∃ (frm pos : Nat) (acc : List UInt8), frm ≤ pos ∧ pos ≤ s.size ∧ i = .int .i64 (frm : Int) ∧ acc.length ≤ 6 * frm ∧ escL v s.data.toList = acc ++ ((s.data.toList.drop frm).take (pos - frm) ++ escL v (s.data.toList.drop pos)) ∧ wr.heap[w.heap.size + 1]? = some (.stringIter s pos) ∧ BldF w.heap.size w.heap.size acc wr ∧ Below w.heap.size w wr) (fun _ wr => s.size - wr.iterPos (w.heap.size + 1))
  case atStart => exact ⟨0, 0, [], Nat.le_refl _, Nat.zero_le _, rfl, by simp, by simp, hk0, hI0, hb0⟩
  case round =>
    obtain ⟨frm, pos, acc, hfp, hps, rfl, hal, hr, hk, hB, hbw⟩ := hrel
    have HR := hide hr
    have hzw := hbw.size
    clear hr hI0 hk0 hb0
    have hmu : wr.iterPos (w.heap.size + 1) = pos := by simp [World.iterPos, hk]
    have HMU := hide hmu
    clear hmu
    by_cases hp : pos < s.size
    · have hat := esc_at v s pos hp
      have hnx := fun ty => Lib.run_next_any_at (P := Tryd.prog) wr (w.heap.size + 1) s pos ty hk hp
      have hB1 := bldF_iter hB hk (pos + (Utf8.decode s pos).2)
      have hk1 := Lib.iterAt_heap wr (w.heap.size + 1) s pos (pos + (Utf8.decode s pos).2) hk
      have hb1 : Below w.heap.size w (wr.iterAt (w.heap.size + 1) s (pos + (Utf8.decode s pos).2)) := Lib.below_iterAt hbw (by omega) s _
      have CN := hide (fun w => nameFor_any ((Utf8.decode s pos).1 : Int) v w)
      have CB := hide (fun w h hc => bytesC ((Utf8.decode s pos).1 : Int) w h hc)
      have hdl := decode_le s pos
      generalize wr.iterAt (w.heap.size + 1) s (pos + (Utf8.decode s pos).2) = w1 at *
      generalize (Utf8.decode s pos).1 = c at *
      generalize (Utf8.decode s pos).2 = n at *
      generalize forN (c : Int) v = nm at *
      have hz1 := hb1.size
      have hcu := cut_cut s.data.toList frm pos n hfp
      have HCU := hide hcu
      clear hcu
      rcases hat with ⟨hnm, hn1, hn2, he⟩ | ⟨hnm, hn4, hc, hul, hn1, hn2, he⟩
      · subst hnm
        have hem : (bs []).toList.isEmpty = true := is_empty _ rfl
        have HE := hide he
        clear he CB
        go_wp2_with fail
        refine (unhide CN _).mono ?_
        rintro e1 w2 ⟨rfl, rfl⟩
        go_wp2
        go_roundw
        case rel => exact ⟨frm, pos + n, acc, by omega, by omega, rfl, hal, by rw [unhide HR, unhide HE, ← List.append_assoc ((s.data.toList.drop frm).take _), unhide HCU], hk1, hB1, hb1⟩
        case measure =>
          rw [unhide HMU]
          simp [World.iterPos, hk1]; omega
      · have hem : (bs nm).toList.isEmpty = false := not_empty _ (by rw [bs_size]; exact List.length_pos_iff.2 hnm)
        have hns : (bs nm).size ≤ 4 := by rw [bs_size]; exact hn4
        have hcb := cut_ex s frm pos
        have hcz : (s.extract frm pos).size = pos - frm := by simp; omega
        have hx : (s.extract frm pos ++ ⟨#[38]⟩ ++ bs nm ++ ⟨#[59]⟩ : ByteArray).data.toList = (s.data.toList.drop frm).take (pos - frm) ++ ([38] ++ nm ++ [59]) := by
          rw [hcb, amp_bs, semi_bs, bs_bs, bs_bs, bs_bs, bs_toList]; simp
        have hxz : (s.extract frm pos ++ ⟨#[38]⟩ ++ bs nm ++ ⟨#[59]⟩ : ByteArray).size ≤ pos - frm + 6 := by
          rw [ByteArray.size_append, ByteArray.size_append, ByteArray.size_append, hcz]
          show _ + 1 + _ + 1 ≤ _
          omega
        have HX := hide hx
        have HXZ := hide hxz
        have HE := hide he
        have HC := hide (fun w h => unhide CB w h hc)
        have hus : (bs (ub (c : Int))).size = n := by rw [bs_size]; exact hul
        clear he hx hxz hcb CB hul
        go_wp2_with fail
        refine (unhide CN _).mono ?_
        rintro e1 w2 ⟨rfl, rfl⟩
        go_wp2_with fail
        refine (writeStringK _ _ _ _ _ hB1 (by have := unhide HXZ; omega) (by omega)).mono ?_
        rintro e1 w3 ⟨rfl, hB3, hb3, ho3⟩
        rw [unhide HX] at hB3
        have hk3 := oth_iter ho3 hk1 (by omega)
        have hb13 := hb1.trans hb3
        have hz3 := hb13.size
        go_wp2_with fail
        refine (unhide HC _ ((unhide HT).below hb13)).mono ?_
        rintro e1 w4 ⟨rfl, hb4⟩
        have hB4 := bldF_below hB3 hb4
        have hk4 := iter_keeps hb4 hk3
        go_wp2
        go_roundw
        case rel => exact ⟨pos + n, pos + n, _, Nat.le_refl _, by omega, by first | rfl | go_num, by simp; omega, by rw [unhide HR, unhide HE]; simp, hk4, hB4, hb13.trans (hb4.mono hz3)⟩
        case measure =>
          rw [unhide HMU]
          simp [World.iterPos, hk4]; omega
    · have hnx := fun ty => Lib.run_next_end_at (P := Tryd.prog) wr (w.heap.size + 1) s pos ty hk hp
      have hf : escL v s.data.toList = acc ++ (s.extract frm s.size).data.toList := by
        have hdn : s.data.toList.drop pos = [] := List.drop_eq_nil_of_le (by rw [data_len]; omega)
        rw [unhide HR, cut_ex, bs_toList, hdn]
        have : escL v [] = [] := by simp [escL, escS]
        rw [this, List.append_nil, show pos - frm = s.size - frm by omega]
      have hxz : (s.extract frm s.size).size ≤ s.size := by simp
      have HF := hide hf
      clear hf
      go_wp2_with fail
      refine (writeStringK _ _ _ _ _ hB (by omega) (by omega)).mono ?_
      rintro e1 w3 ⟨rfl, hB3, hb3, ho3⟩
      have hb13 := hbw.trans hb3
      have hz3 := hb13.size
      rw [← unhide HF] at hB3
      go_wp2_with fail
      refine (stringK _ _ _ _ hB3 (by omega)).mono ?_
      rintro e1 w4 ⟨rfl, hb4⟩
      go_wp2
      go_ret
      exact ⟨rfl, hb13.trans hb4⟩
end Go.Proofs.YtpfnjgkfombmpaaDoor

/-
  What 'pen.Close' and 'pen.Chars' do, and the reference's.
-/
namespace Go.Proofs.YtpfnjgkfombmpaaDoor
open Go.RowKit
set_option linter.unusedVariables false

/-- What is told: a text, or that its form is wrong. -/
def toldV (b : Bool) (x : ByteArray) : Value := .tuple #[.string (if b = true then x else ⟨#[]⟩), .int .i64 (if b = true then 0 else 4)]
def closeL (l : List UInt8) : List UInt8 := [60, 47] ++ (l ++ [62])
theorem close_bs (s : ByteArray) : (⟨#[60, 47]⟩ : ByteArray) ++ s ++ ⟨#[62]⟩ = bs (closeL s.data.toList) := by
  have h1 : (⟨#[60, 47]⟩ : ByteArray) = bs [60, 47] := rfl
  have h2 : (⟨#[62]⟩ : ByteArray) = bs [62] := rfl
  rw [h1, h2, bs_add, bs_bs]; unfold closeL; simp

def charsB (l : List UInt8) : Bool := decide (l ≠ []) && goodB l
theorem charsB_no {l : List UInt8} (h : l = []) : charsB l = false := by subst h; rfl
theorem charsB_ok {l : List UInt8} (h : l ≠ []) : charsB l = goodB l := by unfold charsB; rw [decide_eq_true h]; rfl
theorem ne_size {s : ByteArray} (h : 0 < s.size) : s.data.toList ≠ [] := by
  intro e; have := congrArg List.length e; rw [data_len] at this; simp only [List.length_nil] at this; omega
theorem nil_size {s : ByteArray} (h : s.size = 0) : s.data.toList = [] := List.eq_nil_of_length_eq_zero (by rw [data_len]; exact h)

end Go.Proofs.YtpfnjgkfombmpaaDoor

/-
  What 'pen.allRight' and 'pen.hasTwice' do.
-/
namespace Go.Proofs.YtpfnjgkfombmpaaDoor
open Go.RowKit Go.Maps Go.WideMaps
set_option linter.unusedVariables false

/-- How long they may be. -/
def Fits (ats : List (ByteArray × ByteArray)) : Prop := ats.length ≤ 1000 ∧ ∀ k, k < ats.length → (an ats k).size ≤ 10000 ∧ (av ats k).size ≤ 10000
def rightAt (ats : List (ByteArray × ByteArray)) (k : Nat) : Bool := nameB (an ats k).data.toList && goodB (av ats k).data.toList
def rightF (ats : List (ByteArray × ByteArray)) : Nat → Bool
  | 0 => true
  | k + 1 => rightF ats k && rightAt ats k
def rightAs (ats : List (ByteArray × ByteArray)) : Bool := rightF ats ats.length
theorem rightF_no (ats : List (ByteArray × ByteArray)) {k : Nat} (h : rightAt ats k = false) : ∀ n, k < n → rightF ats n = false
  | 0, hn => by omega
  | n + 1, hn => by
    rw [rightF]
    by_cases e : k = n
    · subst e; rw [h]; simp
    · rw [rightF_no ats h n (by omega)]; rfl

set_option maxHeartbeats 2000000 in
theorem allRight_any (ats : List (ByteArray × ByteArray)) (g o cap : Nat) (w : World) (ht : Tabs w) (hc : Cells2 g o ats w) (hf : Fits ats) :
    Calls Tryd.prog 117 #[.slice (some ⟨g, o, none⟩) ats.length cap] w fun e w' => e = .returned (.bool (rightAs ats)) ∧ Below w.heap.size w w' := by
  have HT := hide ht
  have HC := hide hc
  have HF := hide hf
  have hlen : ats.length ≤ 1000 := hf.1
  have NO := hide (fun k h hk => rightF_no ats (k := k) h ats.length hk)
  clear ht hc hf
  go_enter Tryd.func117, Tryd.ntmps117
  go_wp2
  go_loopw [7] (fun i wr => ∃ k : Nat, k ≤ ats.length ∧ i = .int .i64 k ∧ rightF ats k = true ∧ Below w.heap.size w wr) (fun i _ => ats.length - (intOf i).toNat)
  case atStart => exact ⟨0, Nat.zero_le _, rfl, rfl, Below.refl _ _⟩
  case round =>
    obtain ⟨k, hk, rfl, hr, hbw⟩ := hrel
    have HR := hide hr
    have hzw := hbw.size
    clear hr
    by_cases hp : k < ats.length
    · have hpi : (k : Int) < (ats.length : Int) := by omega
      obtain ⟨c1, c2⟩ := (unhide HC).below hbw k hp
      have CN := hide (fun w => pname_any (an ats k) w (by have := (unhide HF).2 k hp; omega))
      have CG := hide (fun w h => pgood_any (av ats k) w h (by have := (unhide HF).2 k hp; omega))
      have hra : rightAt ats k = (nameB (an ats k).data.toList && goodB (av ats k).data.toList) := rfl
      have NK := hide (fun h => unhide NO k h hp)
      have HRA := hide hra
      clear hra
      generalize nameB (an ats k).data.toList = nb at *
      generalize goodB (av ats k).data.toList = gb at *
      generalize an ats k = a1 at *
      generalize av ats k = a2 at *
      have hbA : Below wr.heap.size wr (wr.alloc (.cells #[.string a1, .string a2] 55)) := (Below.refl _ _).alloc (Nat.le_refl _) _
      have hbA' := tr2 hbw hbA
      have f1 : (wr.alloc (.cells #[.string a1, .string a2] 55)).cell? ⟨wr.heap.size, 1, none⟩ = some (.string a2) := World.cell?_alloc_at _ _ _ _ rfl
      have F1 := hide f1
      clear f1
      cases nb with
      | false =>
        rw [Bool.false_and] at HRA
        have HV := hide (unhide NK (unhide HRA))
        go_wp2_with fail
        refine (unhide CN _).mono ?_
        rintro e w2 ⟨rfl, hb2⟩
        go_wp2
        go_ret
        exact ⟨by unfold rightAs; rw [unhide HV]; rfl, tr2 hbA' hb2⟩
      | true =>
        rw [Bool.true_and] at HRA
        cases gb with
        | false =>
          have HV := hide (unhide NK (unhide HRA))
          go_wp2_with fail
          refine (unhide CN _).mono ?_
          rintro e w2 ⟨rfl, hb2⟩
          have f1 := cell_later hb2 (unhide F1)
          have hb12 := tr2 hbA' hb2
          go_wp2_with fail
          refine (unhide CG _ ((unhide HT).below hb12)).mono ?_
          rintro e w3 ⟨rfl, hb3⟩
          go_wp2
          go_ret
          exact ⟨by unfold rightAs; rw [unhide HV]; rfl, tr2 hb12 hb3⟩
        | true =>
          go_wp2_with fail
          refine (unhide CN _).mono ?_
          rintro e w2 ⟨rfl, hb2⟩
          have f1 := cell_later hb2 (unhide F1)
          have hb12 := tr2 hbA' hb2
          go_wp2_with fail
          refine (unhide CG _ ((unhide HT).below hb12)).mono ?_
          rintro e w3 ⟨rfl, hb3⟩
          have hb13 := tr2 hb12 hb3
          go_wp2
          go_roundw
          case rel => exact ⟨k + 1, by omega, by go_num, by rw [rightF, unhide HR, unhide HRA]; rfl, hb13⟩
          case measure => simp [intOf]; omega
    · have hke : k = ats.length := by omega
      have hv : rightAs ats = true := by unfold rightAs; rw [← hke]; exact unhide HR
      have HV := hide hv
      clear hv
      go_wp2
      go_ret
      exact ⟨by rw [unhide HV]; rfl, hbw⟩

/-! ### whether two have one name -/
def keyA (ats : List (ByteArray × ByteArray)) (k : Nat) : Lit := .string (an ats k).data.toList
def putA {H : Type} (ats : List (ByteArray × ByteArray)) : Nat → DataW H
  | 0 => .map []
  | k + 1 => (putA ats k).put (keyA ats k) (.lit (.int .i64 k))
def diffN (ats : List (ByteArray × ByteArray)) : Nat := Maps.size (putA (H := Unit) ats ats.length)
theorem keyA_ok {ats : List (ByteArray × ByteArray)} (hf : Fits ats) {k : Nat} (hk : k < ats.length) : keyOf Tryd.prog 9 (.string (an ats k)) = some (keyA ats k) := by
  refine keyOf_string_mk Tryd.underlying9 ?_
  have := (hf.2 k hk).1
  unfold maxLen; omega

set_option maxHeartbeats 2000000 in
set_option maxRecDepth 100000 in
theorem hasTwice_any (ats : List (ByteArray × ByteArray)) (g o cap : Nat) (w : World) (hc : Cells2 g o ats w) (hf : Fits ats) :
    Calls Tryd.prog 118 #[.slice (some ⟨g, o, none⟩) ats.length cap] w fun e w' => e = .returned (.bool (decide (diffN ats < ats.length))) ∧ Below w.heap.size w w' := by
  have hmm := @run_makeMap Tryd.prog
  have HC := hide hc
  have HF := hide hf
  have hlen : ats.length ≤ 1000 := hf.1
  clear hc hf
  go_enter Tryd.func118, Tryd.ntmps118
  go_wp2
  go_loopw [9] (fun i wr => ∃ k : Nat, k ≤ ats.length ∧ i = .int .i64 k ∧ wr.ownsMap Tryd.prog 9 (plainElem Tryd.prog 3) w.heap.size k (putA (H := Unit) ats k) ∧ Below w.heap.size w wr) (fun i _ => ats.length - (intOf i).toNat)
  case atStart => exact ⟨0, Nat.zero_le _, rfl, World.ownsMap_made _ _ _ _, (Below.refl _ _).alloc (Nat.le_refl _) _⟩
  case round =>
    obtain ⟨k, hk, rfl, hown, hbw⟩ := hrel
    have hzw := hbw.size
    by_cases hp : k < ats.length
    · have hpi : (k : Int) < (ats.length : Int) := by omega
      obtain ⟨c1, c2⟩ := (unhide HC).below hbw k hp
      have hkey := keyA_ok (unhide HF) hp
      generalize an ats k = a1 at *
      generalize av ats k = a2 at *
      have hownA := hown.alloc (.cells #[.string a1, .string a2] 55)
      go_wp2_with (first
        | (at_mapUpdate; refine wpList_mapUpdate_own _ rfl _ _ _ 150 rfl 9 3 law9 Tryd.underlying150 (plainElem (H := Unit) Tryd.prog 3) w.heap.size k _ rfl hownA (by unfold maxLen; omega) _ _ _ rfl rfl hkey _ [] (plainElem_int Tryd.underlying3 (WalkArith.wf_i64 (by omega))) ?_; intro w1 hown1 hgrow1)
        | go_in)
      have hbA : Below w.heap.size w (wr.alloc (.cells #[.string a1, .string a2] 55)) := hbw.alloc hbw.size _
      have hbG := hbA.grown hgrow1 hbA.size (fun j hj => by cases hj; exact Nat.le_refl _)
      go_wp2
      go_roundw
      case rel => exact ⟨k + 1, by omega, by go_num, hown1, hbG⟩
      case measure => simp [intOf]; omega
    · have hke : k = ats.length := by omega
      subst hke
      go_wp2_with (first
        | (at_len; refine wpList_len_own _ rfl _ 150 rfl 9 3 Tryd.underlying150 _ w.heap.size ats.length _ rfl hown ?_)
        | go_in)
      go_ret
      exact ⟨rfl, hbw⟩
end Go.Proofs.YtpfnjgkfombmpaaDoor

/-
  Two attributes have one name just where the map of names has fewer entries than there are attributes.
-/
namespace Go.Proofs.YtpfnjgkfombmpaaDoor
open Go.RowKit Go.Maps Go.WideMaps
set_option linter.unusedVariables false

/-- Is the name at a place one of the first k ones? -/
def seenF (ats : List (ByteArray × ByteArray)) (i : Nat) : Nat → Bool
  | 0 => false
  | k + 1 => seenF ats i k || decide (an ats k = an ats i)
/-- Of the first n names, are two the same? -/
def dupF (ats : List (ByteArray × ByteArray)) : Nat → Bool
  | 0 => false
  | n + 1 => dupF ats n || seenF ats n n
theorem keyA_lit (ats : List (ByteArray × ByteArray)) (k : Nat) : WideAt.IsKeyLit (keyA ats k) := isKey _
theorem keyA_eq {ats : List (ByteArray × ByteArray)} {k i : Nat} : keyA ats k = keyA ats i ↔ an ats k = an ats i := by
  unfold keyA
  constructor
  · intro h
    have : (an ats k).data.toList = (an ats i).data.toList := by simpa using h
    rw [← bs_self (an ats k), this, bs_self]
  · intro h; rw [h]
theorem put_tidy {H : Type} (ats : List (ByteArray × ByteArray)) : ∀ k, Tidy (putA (H := H) ats k)
  | 0 => tidy_empty
  | k + 1 => (put_tidy ats k).put (isKey _) _
theorem put_has {H : Type} (ats : List (ByteArray × ByteArray)) (i : Nat) : ∀ k, has (putA (H := H) ats k) (keyA ats i) = seenF ats i k
  | 0 => rfl
  | k + 1 => by
    rw [putA, seenF]
    by_cases e : an ats k = an ats i
    · rw [← keyA_eq.2 e, has_put_same (put_tidy ats k).isMap (keyA_lit ats k), decide_eq_true e]; simp
    · rw [has_put_other (fun h => e (keyA_eq.1 h.symm)), put_has ats i k, decide_eq_false e]; simp
theorem put_size (ats : List (ByteArray × ByteArray)) : ∀ k, Maps.size (putA (H := Unit) ats k) ≤ k ∧ (dupF ats k = true ↔ Maps.size (putA (H := Unit) ats k) < k)
  | 0 => ⟨Nat.le_refl _, by constructor
                            · intro h; cases h
                            · intro h; omega⟩
  | k + 1 => by
    have ih := put_size ats k
    rw [putA, size_put (put_tidy ats k), put_has, dupF]
    cases hs : seenF ats k k with
    | true => simp; omega
    | false =>
      simp only [Bool.or_false]
      refine ⟨by simp; omega, ?_⟩
      rw [ih.2]; simp
theorem diff_dup (ats : List (ByteArray × ByteArray)) : dupF ats ats.length = decide (diffN ats < ats.length) := by
  have := (put_size ats ats.length).2
  unfold diffN
  rw [Bool.eq_iff_iff, this, decide_eq_true_eq]
theorem dup_more {ats : List (ByteArray × ByteArray)} {i : Nat} (h : seenF ats i i = true) : ∀ n, i < n → dupF ats n = true
  | 0, hn => by omega
  | n + 1, hn => by
    rw [dupF]
    by_cases e : i = n
    · subst e; rw [h]; simp
    · rw [dup_more h n (by omega)]; rfl
theorem seen_more {ats : List (ByteArray × ByteArray)} {i k : Nat} (h : an ats k = an ats i) : ∀ n, k < n → seenF ats i n = true
  | 0, hn => by omega
  | n + 1, hn => by
    rw [seenF]
    by_cases e : k = n
    · subst e; rw [decide_eq_true h]; simp
    · rw [seen_more h n (by omega)]; rfl
end Go.Proofs.YtpfnjgkfombmpaaDoor

/-
  What 'refs.All' does: all of a text.
-/
namespace Go.Proofs.YtpfnjgkfombmpaaDoor
open Go.RowKit
set_option linter.unusedVariables false

end Go.Proofs.YtpfnjgkfombmpaaDoor

/-
  What 'utf.Clean' does: of every text that isn't too long, it cleaned.
-/
namespace Go.Proofs.YtpfnjgkfombmpaaDoor
open Go.RowKit
set_option linter.unusedVariables false

end Go.Proofs.YtpfnjgkfombmpaaDoor

/-
  The law RefsPlain walked: a text without & is itself, cleaned; and what stands ahead of a text stays ahead of it.
-/
namespace Go.Proofs.YtpfnjgkfombmpaaDoor
open Go.RowKit
set_option linter.unusedVariables false

theorem ssame (x : ByteArray) : (x.toList == x.toList) = true := by simp
theorem at_plain {l : List UInt8} (v : Bool) (h : ¬ dgt l 0 = 38) : atL l v = (ub (step l).1, ((step l).2.1 : Int)) := by
  rw [atL]; unfold atWith; rw [if_pos h]
def noAmp (l : List UInt8) : Prop := ∀ k, k < l.length → ¬ dgt l k = 38
theorem noAmp_drop {l : List UInt8} (h : noAmp l) (n : Nat) : noAmp (l.drop n) := by
  intro k hk
  rw [List.length_drop] at hk
  rw [dgt_drop]; exact h (n + k) (by omega)
theorem all_plain (v : Bool) : ∀ (f : Nat) (l : List UInt8), l.length ≤ f → noAmp l → allL v l = cleanL l
  | 0, l, h, _ => by
    have : l = [] := List.eq_nil_of_length_eq_zero (by omega)
    subst this; rfl
  | f + 1, l, h, hn => by
    by_cases e : l = []
    · subst e; rfl
    · have hl : 0 < l.length := List.length_pos_iff.2 e
      have hok := step_ok e
      rw [allL_cons v e, cleanL_cons e, at_plain v (hn 0 hl)]
      simp only [Int.toNat_natCast]
      rw [all_plain v f _ (by rw [List.length_drop]; omega) (noAmp_drop hn _)]
theorem dgt_app (a b : List UInt8) (k : Nat) (h : k < a.length) : dgt (a ++ b) k = dgt a k := by
  unfold dgt; rw [List.getD, List.getD, List.getElem?_append_left h]
theorem all_ahead (v : Bool) (t : List UInt8) : ∀ (f : Nat) (l : List UInt8), l.length ≤ f → noAmp l → rightB l = true → allL v (l ++ t) = l ++ allL v t
  | 0, l, h, _, _ => by
    have : l = [] := List.eq_nil_of_length_eq_zero (by omega)
    subst this; rfl
  | f + 1, l, h, hn, hr => by
    by_cases e : l = []
    · subst e; rfl
    · have hl : 0 < l.length := List.length_pos_iff.2 e
      have hok := step_ok e
      rw [rightB_cons e, Bool.and_eq_true] at hr
      have htk := step_take e hr.1
      have hst : step (l ++ t) = ((step l).1, (step l).2.1, true) := by
        have : l ++ t = ub (step l).1 ++ (l.drop (step l).2.1 ++ t) := by
          rw [← htk.1, ← List.append_assoc, List.take_append_drop]
        rw [this, step_ub _ _ hok.2.2.2, htk.2]
      have hne : l ++ t ≠ [] := by simp [e]
      have hdrop : (l ++ t).drop (step l).2.1 = l.drop (step l).2.1 ++ t := by
        rw [List.drop_append_of_le_length (by omega)]
      rw [allL_cons v hne, at_plain v (by rw [dgt_app _ _ _ hl]; exact hn 0 hl), hst]
      simp only [Int.toNat_natCast]
      rw [hdrop, all_ahead v t f _ (by rw [List.length_drop]; omega) (noAmp_drop hn _) hr.2, ← List.append_assoc, ← htk.1, List.take_append_drop]
theorem allL_len (v : Bool) : ∀ (f : Nat) (l : List UInt8), l.length ≤ f → (allL v l).length ≤ 4 * l.length
  | 0, l, h => by
    have : l = [] := List.eq_nil_of_length_eq_zero (by omega)
    subst this; simp [allL_nil]
  | f + 1, l, h => by
    by_cases e : l = []
    · subst e; simp [allL_nil]
    · have hb := at_bd v e
      have hl : 0 < l.length := List.length_pos_iff.2 e
      have ih := allL_len v f (l.drop (atL l v).2.toNat) (by rw [List.length_drop]; omega)
      rw [allL_cons v e, List.length_append]
      rw [List.length_drop] at ih
      omega
theorem amp_cases (l : List UInt8) : (∃ k, k < l.length ∧ dgt l k = 38 ∧ ∀ j, j < k → ¬ dgt l j = 38) ∨ noAmp l := by
  have : ∀ n, n ≤ l.length → (∃ k, k < n ∧ dgt l k = 38 ∧ ∀ j, j < k → ¬ dgt l j = 38) ∨ ∀ k, k < n → ¬ dgt l k = 38 := by
    intro n
    induction n with
    | zero => intro _; exact .inr (fun k hk => by omega)
    | succ n ih =>
      intro hn
      rcases ih (by omega) with ⟨k, h1, h2⟩ | h
      · exact .inl ⟨k, by omega, h2⟩
      · by_cases e : dgt l n = 38
        · exact .inl ⟨n, by omega, e, h⟩
        · refine .inr (fun k hk => ?_)
          by_cases hkn : k = n
          · rw [hkn]; exact e
          · exact h k (by omega)
  exact this l.length (Nat.le_refl _)

end Go.Proofs.YtpfnjgkfombmpaaDoor

/-
  What was escaped is, all of it, what it was, cleaned: of plain lists of bytes.
-/
namespace Go.Proofs.YtpfnjgkfombmpaaDoor
open Go.RowKit
set_option linter.unusedVariables false

/-! ### the five references, whatever stands behind them -/
theorem at_amp (v : Bool) (t : List UInt8) : atL (ampL ++ t) v = ([38], 5) := by cases v <;> kernel_rfl
theorem at_ltr (v : Bool) (t : List UInt8) : atL (ltL ++ t) v = ([60], 4) := by cases v <;> kernel_rfl
theorem at_gtr (v : Bool) (t : List UInt8) : atL (gtL ++ t) v = ([62], 4) := by cases v <;> kernel_rfl
theorem at_quot (v : Bool) (t : List UInt8) : atL (quotL ++ t) v = ([34], 6) := by cases v <;> kernel_rfl
theorem at_nbsp (v : Bool) (t : List UInt8) : atL (nbspL ++ t) v = ([194, 160], 6) := by cases v <;> kernel_rfl

theorem all_of {v : Bool} {a x t : List UInt8} {n : Nat} (h : atL (a ++ t) v = (x, (n : Int))) (hn : a.length = n) (h0 : a ≠ []) : allL v (a ++ t) = x ++ allL v t := by
  rw [allL_cons v (by simp [h0]), h]
  simp only [Int.toNat_natCast]
  rw [← hn, List.drop_left]

/-! ### a byte that begins no character begins none ahead of what was escaped -/
theorem cand_congr {l m : List UInt8} (h0 : dgt l 0 = dgt m 0) (h1 : tl l 1 = tl m 1 ∧ (tl l 1 = true → dgt l 1 = dgt m 1)) (h2 : tl l 1 = true → tl l 2 = tl m 2 ∧ (tl l 2 = true → dgt l 2 = dgt m 2))
    (h3 : tl l 1 = true → tl l 2 = true → tl l 3 = tl m 3 ∧ (tl l 3 = true → dgt l 3 = dgt m 3)) : cand l = cand m := by
  unfold cand
  rw [← h0]
  by_cases g1 : dgt l 0 < 128
  · rw [if_pos g1, if_pos g1]
  rw [if_neg g1, if_neg g1]
  by_cases g2 : dgt l 0 < 192
  · rw [if_pos g2, if_pos g2]
  rw [if_neg g2, if_neg g2]
  cases t1 : tl l 1 with
  | false =>
    have e1 : tl m 1 = false := by rw [← h1.1, t1]
    simp [e1]
  | true =>
    have e1 : tl m 1 = true := by rw [← h1.1, t1]
    have d1 := h1.2 t1
    have q2 := h2 t1
    cases t2 : tl l 2 with
    | false =>
      have e2 : tl m 2 = false := by rw [← q2.1, t2]
      simp [e1, e2, lo, d1]
    | true =>
      have e2 : tl m 2 = true := by rw [← q2.1, t2]
      have d2 := q2.2 t2
      have q3 := h3 t1 t2
      cases t3 : tl l 3 with
      | false =>
        have e3 : tl m 3 = false := by rw [← q3.1, t3]
        simp [e1, e2, e3, lo, d1, d2]
      | true =>
        have e3 : tl m 3 = true := by rw [← q3.1, t3]
        have d3 := q3.2 t3
        simp [e1, e2, e3, lo, d1, d2, d3]
theorem step_congr {l m : List UInt8} (h : cand l = cand m) : step l = step m := by
  unfold step dec; rw [h]

theorem tl_cons (c : UInt8) (l : List UInt8) (k : Nat) : tl (c :: l) (k + 1) = tl l k := by
  unfold tl; rw [dgt_succ]; simp
/-- Bytes that go on stay; what is no such byte stays none. -/
theorem esc_goes (v : Bool) (m : List UInt8) : tl m 0 = tl (escL v m) 0 ∧ (tl m 0 = true → dgt m 0 = dgt (escL v m) 0 ∧ ∃ c, m = c :: m.drop 1 ∧ escL v m = c :: escL v (m.drop 1)) := by
  cases m with
  | nil => exact ⟨rfl, fun h => by simp [tl] at h⟩
  | cons c r =>
    have hk : 0 < (c :: r).length := by simp
    by_cases g0 : c.toNat = 38
    · have e := esc_38 (v := v) hk g0
      simp only [List.drop_zero] at e
      refine ⟨?_, fun h => by simp [tl, dgt_cons, g0] at h⟩
      rw [e]; simp [tl, dgt_cons, g0, ampL]
    by_cases g1 : c.toNat = 60
    · have e := esc_60 (v := v) hk g1
      simp only [List.drop_zero] at e
      refine ⟨?_, fun h => by simp [tl, dgt_cons, g1] at h⟩
      rw [e]; simp [tl, dgt_cons, g1, ltL]
    by_cases g2 : c.toNat = 62
    · have e := esc_62 (v := v) hk g2
      simp only [List.drop_zero] at e
      refine ⟨?_, fun h => by simp [tl, dgt_cons, g2] at h⟩
      rw [e]; simp [tl, dgt_cons, g2, gtL]
    by_cases g3 : c.toNat = 34
    · have e := esc_34 (v := v) hk g3
      simp only [List.drop_zero] at e
      refine ⟨?_, fun h => by simp [tl, dgt_cons, g3] at h⟩
      rw [e]; cases v <;> simp [tl, dgt_cons, g3, quotL]
    by_cases g4 : c.toNat = 194 ∧ atB (c :: r) 1 = 160
    · have e := esc_160 (v := v) (k := 0) (l := c :: r) (at_lt g4.2) g4.1 g4.2
      simp only [List.drop_zero] at e
      refine ⟨?_, fun h => by simp [tl, dgt_cons, g4.1] at h⟩
      rw [e]; simp [tl, dgt_cons, g4.1, nbspL]
    · have e := esc_other (v := v) hk g0 g1 g2 g3 g4
      simp only [List.drop_zero, dgt_cons, byt_self] at e
      refine ⟨?_, fun h => ⟨?_, c, rfl, ?_⟩⟩
      · rw [e]; simp [tl, dgt_cons]
      · rw [e]; rfl
      · rw [e]
theorem step_esc (v : Bool) (c : UInt8) (m : List UInt8) : step (c :: m) = step (c :: escL v m) := by
  apply step_congr
  have a1 := esc_goes v m
  refine cand_congr rfl ?_ ?_ ?_
  · rw [tl_cons, tl_cons, dgt_succ, dgt_succ]; exact ⟨a1.1, fun h => (a1.2 h).1⟩
  · rw [tl_cons, tl_cons, tl_cons, dgt_succ, dgt_succ]
    intro h
    obtain ⟨_, d, hm, he⟩ := a1.2 h
    have a2 := esc_goes v (m.drop 1)
    rw [he]
    generalize m.drop 1 = r at *
    rw [hm, tl_cons, tl_cons, dgt_succ, dgt_succ]; exact ⟨a2.1, fun h => (a2.2 h).1⟩
  · rw [tl_cons, tl_cons, tl_cons, tl_cons, dgt_succ, dgt_succ]
    intro h h2
    obtain ⟨_, d, hm, he⟩ := a1.2 h
    have a2 := esc_goes v (m.drop 1)
    rw [he]
    generalize m.drop 1 = r at *
    rw [hm, tl_cons] at h2
    rw [hm, tl_cons, tl_cons, dgt_succ, dgt_succ]
    obtain ⟨_, d2, hm2, he2⟩ := a2.2 h2
    have a3 := esc_goes v (r.drop 1)
    rw [he2]
    generalize r.drop 1 = q at *
    rw [hm2, tl_cons, tl_cons, dgt_succ, dgt_succ]; exact ⟨a3.1, fun h => (a3.2 h).1⟩

/-! ### all of it -/
theorem esc_char (v : Bool) (c : Int) (r : List UInt8) (hc : isC c = true) (hf : forN c v = []) : escL v (ub c ++ r) = ub c ++ escL v r := by
  have hr := isC_true hc
  have hne : ub c ++ r ≠ [] := ub_ne c r
  have hn : c ≠ 38 ∧ c ≠ 160 ∧ c ≠ 60 ∧ c ≠ 62 ∧ ¬ (c = 34 ∧ v = true) := by
    refine ⟨fun h => ?_, fun h => ?_, fun h => ?_, fun h => ?_, fun h => ?_⟩
    · rw [h] at hf; cases v <;> cases hf
    · rw [h] at hf; cases v <;> cases hf
    · rw [h] at hf; cases v <;> cases hf
    · rw [h] at hf; cases v <;> cases hf
    · rw [h.1, h.2] at hf; cases hf
  by_cases hlow : c < 128
  · have e : ub c = [byt c] := by rw [ub, ubI_1 hlow]; rfl
    rw [e]
    have d0 : dgt ([byt c] ++ r) 0 = c.toNat := byt_n c (by omega) (by omega)
    by_cases h34 : c = 34
    · have hv : v = false := by cases v with | false => rfl | true => exact absurd ⟨h34, rfl⟩ hn.2.2.2.2
      subst hv
      have := esc_34 (v := false) (k := 0) (l := [byt c] ++ r) (by simp) (by rw [d0]; omega)
      simp only [List.drop_zero] at this
      rw [this]; subst h34; rfl
    · have := esc_other (v := v) (k := 0) (l := [byt c] ++ r) (by simp) (by rw [d0]; omega) (by rw [d0]; omega) (by rw [d0]; omega) (by rw [d0]; omega) (by rw [d0]; omega)
      simp only [List.drop_zero] at this
      rw [this, d0]
      have : ((c.toNat : Nat) : Int) = c := by omega
      rw [this]; rfl
  · have hcu := cand_ub c r (by omega) (by omega)
    have hsz := sz_cases c
    have hlen : (ub c).length = sz c := ub_len c
    have hrun := esc_run v (ub c ++ r) (sz c) 0 (by rw [List.length_append]; omega) (fun j hj => ?_)
    · simp only [List.drop_zero, Nat.zero_add] at hrun
      rw [hrun, ← hlen, List.take_left, List.drop_left]
    · rw [Nat.zero_add, atB_dgt]
      rcases hsz with ⟨h, e⟩ | ⟨hl, h, e⟩ | ⟨hl, h, e⟩ | ⟨h, e⟩
      · omega
      · rw [ub, ubI_2 hl h]
        simp only [List.map_cons, List.map_nil, List.cons_append, List.nil_append]
        have : j = 0 ∨ j = 1 := by omega
        rcases this with rfl | rfl
        · rw [dgt_cons, dgt_succ, dgt_cons, byt_n _ (by omega) (by omega), byt_n _ (by omega) (by omega)]
          omega
        · rw [dgt_succ, dgt_cons, byt_n _ (by omega) (by omega)]
          omega
      · rw [ub, ubI_3 hl h]
        simp only [List.map_cons, List.map_nil, List.cons_append, List.nil_append]
        have : j = 0 ∨ j = 1 ∨ j = 2 := by omega
        rcases this with rfl | rfl | rfl
        · rw [dgt_cons, byt_n _ (by omega) (by omega)]
          omega
        · rw [dgt_succ, dgt_cons, byt_n _ (by omega) (by omega)]
          omega
        · rw [dgt_succ, dgt_succ, dgt_cons, byt_n _ (by omega) (by omega)]
          omega
      · rw [ub, ubI_4 h]
        simp only [List.map_cons, List.map_nil, List.cons_append, List.nil_append]
        have : j = 0 ∨ j = 1 ∨ j = 2 ∨ j = 3 := by omega
        rcases this with rfl | rfl | rfl | rfl
        · rw [dgt_cons, byt_n _ (by omega) (by omega)]
          omega
        · rw [dgt_succ, dgt_cons, byt_n _ (by omega) (by omega)]
          omega
        · rw [dgt_succ, dgt_succ, dgt_cons, byt_n _ (by omega) (by omega)]
          omega
        · rw [dgt_succ, dgt_succ, dgt_succ, dgt_cons, byt_n _ (by omega) (by omega)]
          omega

theorem all_char (v : Bool) (c : Int) (t : List UInt8) (hc : isC c = true) (h38 : c ≠ 38) : allL v (ub c ++ t) = ub c ++ allL v t := by
  have hr := isC_true hc
  have hst := step_ub c t hc
  have h0 : ¬ dgt (ub c ++ t) 0 = 38 := by
    intro h
    have h1 := cand_1 (l := ub c ++ t) (by omega)
    rw [cand_ub c t (by omega) (by omega), h] at h1
    simp only [Option.some.injEq, Prod.mk.injEq] at h1
    exact h38 (by have := h1.1; omega)
  rw [allL_cons v (ub_ne c t), at_plain v h0, hst]
  simp only [Int.toNat_natCast]
  rw [← ub_len, List.drop_left]

theorem all_esc (v : Bool) : ∀ (f : Nat) (l : List UInt8), l.length ≤ f → allL v (escL v l) = cleanL l
  | 0, l, h => by
    have : l = [] := List.eq_nil_of_length_eq_zero (by omega)
    subst this; rfl
  | f + 1, l, h => by
    by_cases e : l = []
    · subst e; rfl
    have hl : 0 < l.length := List.length_pos_iff.2 e
    have hok := step_ok e
    rw [cleanL_cons e]
    have ih := all_esc v f (l.drop (step l).2.1) (by rw [List.length_drop]; omega)
    rw [← ih]
    cases hr : (step l).2.2 with
    | true =>
      have htk := step_take e hr
      have hc := hok.2.2.2
      have hsp : l = ub (step l).1 ++ l.drop (step l).2.1 := by rw [← htk.1, List.take_append_drop]
      generalize (step l).1 = c at *
      generalize (step l).2.1 = n at *
      generalize l.drop n = r at *
      rw [hsp]
      by_cases c38 : c = 38
      · subst c38
        have := esc_38 (v := v) (k := 0) (l := ub 38 ++ r) (by have := ub_ne 38 r; exact List.length_pos_iff.2 this) rfl
        simp only [List.drop_zero, Nat.zero_add] at this
        rw [this]; exact all_of (at_amp v _) rfl (by simp [ampL])
      by_cases c60 : c = 60
      · subst c60
        have := esc_60 (v := v) (k := 0) (l := ub 60 ++ r) (by have := ub_ne 60 r; exact List.length_pos_iff.2 this) rfl
        simp only [List.drop_zero, Nat.zero_add] at this
        rw [this]; exact all_of (at_ltr v _) rfl (by simp [ltL])
      by_cases c62 : c = 62
      · subst c62
        have := esc_62 (v := v) (k := 0) (l := ub 62 ++ r) (by have := ub_ne 62 r; exact List.length_pos_iff.2 this) rfl
        simp only [List.drop_zero, Nat.zero_add] at this
        rw [this]; exact all_of (at_gtr v _) rfl (by simp [gtL])
      by_cases c160 : c = 160
      · subst c160
        have := esc_160 (v := v) (k := 0) (l := ub 160 ++ r) (by show 1 < (194 :: 160 :: r).length; simp) rfl rfl
        simp only [List.drop_zero, Nat.zero_add] at this
        rw [this]; exact all_of (at_nbsp v _) rfl (by simp [nbspL])
      by_cases c34 : c = 34 ∧ v = true
      · obtain ⟨c34, hv⟩ := c34
        subst c34; subst hv
        have := esc_34 (v := true) (k := 0) (l := ub 34 ++ r) (by have := ub_ne 34 r; exact List.length_pos_iff.2 this) rfl
        simp only [List.drop_zero, Nat.zero_add] at this
        rw [this]; exact all_of (at_quot true _) rfl (by simp [quotL])
      have hf : forN c v = [] := by
        unfold forN
        rw [if_neg c38, if_neg c160, if_neg c60, if_neg c62, if_neg c34]
      rw [esc_char v c r hc hf, all_char v c _ hc c38]
    | false =>
      have hno := step_no hr
      obtain ⟨c, hc, hcn⟩ := drop_at l 0 hl
      rw [List.drop_zero, Nat.zero_add] at hc
      have hhigh : 128 ≤ dgt l 0 := by
        rcases Nat.lt_or_ge (dgt l 0) 128 with h1 | h1
        · have h2 := cand_1 h1
          have hcs : isC (dgt l 0 : Int) = true ∧ sz (dgt l 0 : Int) = 1 := by
            have : ∀ k : Nat, k < 128 → isC (k : Int) = true ∧ sz (k : Int) = 1 := by decide
            exact this _ h1
          have h3 := dec_yes h2 hcs.1 hcs.2
          simp only [step, h3] at hr; cases hr
        · exact h1
      have hnot : ¬ (dgt l 0 = 194 ∧ atB l 1 = 160) := by
        rintro ⟨q1, q2⟩
        have hlt := at_lt q2
        rw [atB_dgt] at q2
        have ht : tl l 1 = true := by rw [tl_iff]; exact ⟨hlt, by omega, by omega⟩
        have h2 := cand_2 (l := l) (by omega) (by omega)
        rw [if_pos ht, lo, q1, q2] at h2
        have h3 := dec_yes h2 (by decide) (by decide)
        simp only [step, h3] at hr; cases hr
      have heo := esc_other (v := v) (k := 0) (l := l) hl (by omega) (by omega) (by omega) (by omega) hnot
      rw [List.drop_zero, Nat.zero_add, ← hcn, byt_self] at heo
      have hst := step_esc v c (l.drop 1)
      rw [← hc] at hst
      rw [hno.1, hno.2, heo, allL_cons v (by simp), at_plain v (by rw [dgt_cons]; omega), ← hst, hno.1, hno.2]
      rfl

/-- What was escaped has neither < nor >, and in values no quotes. -/
def safeB (v : Bool) (c : UInt8) : Bool := !(decide (c.toNat = 60) || decide (c.toNat = 62) || (v && decide (c.toNat = 34)))
theorem esc_safe (v : Bool) : ∀ (l : List UInt8) (b : Bool), (escS v b l).all (safeB v) = true
  | [], b => by cases b <;> rfl
  | c :: l, true => by rw [escS]; exact esc_safe v l false
  | c :: l, false => by
    rw [escS]
    have i1 := esc_safe v l false
    have i2 := esc_safe v l true
    by_cases g0 : c.toNat = 38
    · rw [if_pos g0, List.all_append, i1]; cases v <;> rfl
    rw [if_neg g0]
    by_cases g1 : c.toNat = 60
    · rw [if_pos g1, List.all_append, i1]; cases v <;> rfl
    rw [if_neg g1]
    by_cases g2 : c.toNat = 62
    · rw [if_pos g2, List.all_append, i1]; cases v <;> rfl
    rw [if_neg g2]
    by_cases g3 : c.toNat = 34
    · rw [if_pos g3, List.all_append, i1]; cases v <;> rfl
    rw [if_neg g3]
    by_cases g4 : c.toNat = 194 ∧ hd160 l = true
    · rw [if_pos g4, List.all_append, i2]; cases v <;> rfl
    · rw [if_neg g4, List.all_cons, i1]
      simp [safeB, g1, g2, g3]
theorem esc_safe_at (v : Bool) (l : List UInt8) (k : Nat) (h : k < (escL v l).length) : ¬ dgt (escL v l) k = 60 ∧ ¬ dgt (escL v l) k = 62 ∧ (v = true → ¬ dgt (escL v l) k = 34) := by
  have hs := esc_safe v l false
  rw [List.all_eq_true] at hs
  have := hs _ (List.getElem_mem h)
  have e : dgt (escL v l) k = ((escL v l)[k]).toNat := by unfold dgt; rw [List.getD, List.getElem?_eq_getElem h]; rfl
  rw [e]
  unfold safeB at this
  simp at this
  exact ⟨this.1.1, this.1.2, fun hv => this.2.resolve_left (fun h => by rw [hv] at h; cases h)⟩
theorem esc_len (v : Bool) : ∀ (l : List UInt8) (b : Bool), (escS v b l).length ≤ 6 * l.length
  | [], b => by cases b <;> simp [escS]
  | c :: l, true => by rw [escS]; have := esc_len v l false; simp; omega
  | c :: l, false => by
    rw [escS]
    have i1 := esc_len v l false
    have i2 := esc_len v l true
    repeat' split
    all_goals simp [ampL, ltL, gtL, quotL, nbspL]
    all_goals omega
end Go.Proofs.YtpfnjgkfombmpaaDoor

/-
  What 'pen.Open' does: a tag's text, or why it has none.
-/
namespace Go.Proofs.YtpfnjgkfombmpaaDoor
open Go.RowKit
set_option linter.unusedVariables false

def attB (n v : List UInt8) : List UInt8 := [32] ++ (n ++ ([61, 34] ++ (escL true v ++ [34])))
def attL (ats : List (ByteArray × ByteArray)) : Nat → List UInt8
  | 0 => []
  | k + 1 => attL ats k ++ attB (an ats k).data.toList (av ats k).data.toList
def openL (n : List UInt8) (ats : List (ByteArray × ByteArray)) : List UInt8 := [60] ++ (n ++ (attL ats ats.length ++ [62]))
/-- What is wrong with a tag; 0: nothing. -/
def wrongN (n : List UInt8) (ats : List (ByteArray × ByteArray)) : Int :=
  if (nameB n && rightAs ats) = false then 4 else if diffN ats < ats.length then 8 else if 12 < ats.length then 2 else 0
def openV (n : List UInt8) (ats : List (ByteArray × ByteArray)) : Value := .tuple #[.string (if wrongN n ats = 0 then bs (openL n ats) else ⟨#[]⟩), .int .i64 (wrongN n ats)]
theorem att_bs (a e : ByteArray) : (⟨#[32]⟩ : ByteArray) ++ a ++ ⟨#[61, 34]⟩ ++ e ++ ⟨#[34]⟩ = bs ([32] ++ (a.data.toList ++ ([61, 34] ++ (e.data.toList ++ [34])))) := by
  have h1 : (⟨#[32]⟩ : ByteArray) = bs [32] := rfl
  have h2 : (⟨#[61, 34]⟩ : ByteArray) = bs [61, 34] := rfl
  have h3 : (⟨#[34]⟩ : ByteArray) = bs [34] := rfl
  rw [h1, h2, h3, bs_add, bs_bs, bs_add, bs_bs]; simp

set_option maxHeartbeats 4000000 in
theorem popen_ok (n : ByteArray) (ats : List (ByteArray × ByteArray)) (g o cap : Nat) (w : World) (ht : Tabs w) (hc : Cells2 g o ats w) (hf : Fits ats) (hn : n.size ≤ 10000)
    (h1 : nameB n.data.toList = true) (h2 : rightAs ats = true) (h3 : ¬ diffN ats < ats.length) (h4 : ¬ 12 < ats.length) :
    Calls Tryd.prog 104 #[.string n, .slice (some ⟨g, o, none⟩) ats.length cap] w fun e w' => e = .returned (.tuple #[.string (bs (openL n.data.toList ats)), .int .i64 0]) ∧ Below w.heap.size w w' := by
  have HT := hide ht
  have HC := hide hc
  have HF := hide hf
  have hlen : ats.length ≤ 12 := by omega
  have CN := hide (fun w => pname_any n w (by omega))
  have CR := hide (fun w ht hc => allRight_any ats g o cap w ht hc hf)
  have CT := hide (fun w hc => hasTwice_any ats g o cap w hc hf)
  rw [h1] at CN
  rw [h2] at CR
  rw [decide_eq_false h3] at CT
  have h4i : ¬ (12 : Int) < (ats.length : Int) := by omega
  clear ht hc hf h1 h2 h3 h4
  go_enter Tryd.func104, Tryd.ntmps104
  go_wp2_with fail
  refine (unhide CN _).mono ?_
  rintro e w1 ⟨rfl, hb1⟩
  go_wp2_with fail
  refine (unhide CR _ ((unhide HT).below hb1) ((unhide HC).below hb1)).mono ?_
  rintro e w2 ⟨rfl, hb2⟩
  have hb12 := tr2 hb1 hb2
  go_wp2_with fail
  refine (unhide CT _ ((unhide HC).below hb12)).mono ?_
  rintro e w3 ⟨rfl, hb3⟩
  have hb13 := tr2 hb12 hb3
  have hbB : Below w.heap.size w (w3.alloc (.cells #[.pointer none, .slice none 0 0] 62)) := tr2 hb13 ((Below.refl _ _).alloc (Nat.le_refl _) _)
  have BN := bld_new w3
  have hz3 := hb13.size
  clear hb1 hb2 hb12 hb3
  have hsz1 : (⟨#[60]⟩ ++ n : ByteArray).size = n.size + 1 := by rw [ByteArray.size_append]; show 1 + _ = _; omega
  have hdt1 : (⟨#[60]⟩ ++ n : ByteArray).data.toList = [60] ++ n.data.toList := by simp
  go_wp2_with fail
  refine (writeString_any _ _ _ _ _ BN (by rw [hsz1]; simp; omega) (by simp)).mono ?_
  rintro e w4 ⟨rfl, B4, hb4⟩
  rw [hdt1] at B4
  simp only [List.nil_append] at B4
  have hbW : Below w.heap.size w w4 := hbB.trans (hb4.mono (by omega))
  have hbz4 : w3.heap.size ≤ w4.heap.size := by have := hb4.size; simp at this; omega
  generalize w3.heap.size = b at *
  have HBZ4 := hide hbz4
  clear hbz4
  have HBW := hide hbW
  have HB4 := hide B4
  have HZ3 := hide hz3
  clear hbW B4 hb4 hbB BN hb13 hsz1 hdt1
  go_wp2
  go_loopw [27] (fun i wr => ∃ k : Nat, k ≤ ats.length ∧ i = .int .i64 k ∧ Bld b b ([60] ++ n.data.toList ++ attL ats k) wr ∧ (attL ats k).length ≤ 80000 * k ∧ Below w.heap.size w wr ∧ b ≤ wr.heap.size) (fun i _ => ats.length - (intOf i).toNat)
  case atStart => exact ⟨0, Nat.zero_le _, rfl, by rw [attL, List.append_nil]; exact unhide HB4, by simp [attL], unhide HBW, unhide HBZ4⟩
  case round =>
    obtain ⟨k, hk, rfl, hB, hal, hbw, hbz⟩ := hrel
    have hzw := hbw.size
    by_cases hp : k < ats.length
    · have hpi : (k : Int) < (ats.length : Int) := by omega
      obtain ⟨c1, c2⟩ := (unhide HC).below hbw k hp
      have hft := (unhide HF).2 k hp
      have CE := hide (fun w h => escape_any (av ats k) true w h (by omega))
      have hel := esc_len true (av ats k).data.toList false
      rw [data_len] at hel
      have hatt : attL ats (k + 1) = attL ats k ++ attB (an ats k).data.toList (av ats k).data.toList := rfl
      have hab : ∀ E, E = bs (escL true (av ats k).data.toList) → (⟨#[32]⟩ ++ an ats k ++ ⟨#[61, 34]⟩ ++ E ++ ⟨#[34]⟩ : ByteArray) = bs (attB (an ats k).data.toList (av ats k).data.toList) := fun E hE => by
        rw [att_bs, hE, bs_toList]; rfl
      have habz : (attB (an ats k).data.toList (av ats k).data.toList).length ≤ 80000 := by
        unfold attB
        have : (escL true (av ats k).data.toList).length ≤ 6 * (av ats k).size := hel
        simp; omega
      have hab' := hab _ rfl
      have HATT := hide hatt
      have esz : (bs (escL true (av ats k).data.toList)).size ≤ 60000 := by
        rw [bs_size]
        have : (escL true (av ats k).data.toList).length ≤ 6 * (av ats k).size := hel
        omega
      clear hab hatt hel
      generalize attB (an ats k).data.toList (av ats k).data.toList = ab at *
      generalize bs (escL true (av ats k).data.toList) = E at *
      generalize an ats k = a1 at *
      generalize av ats k = a2 at *
      have hbA : Below wr.heap.size wr (wr.alloc (.cells #[.string a1, .string a2] 55)) := (Below.refl _ _).alloc (Nat.le_refl _) _
      have hbX := tr2 hbw hbA
      have BX := bld_below hB hbA
      have k0 : (wr.alloc (.cells #[.string a1, .string a2] 55)).cell? ⟨wr.heap.size, 0, none⟩ = some (.string a1) := World.cell?_alloc_at _ _ _ _ rfl
      have k1 : (wr.alloc (.cells #[.string a1, .string a2] 55)).cell? ⟨wr.heap.size, 1, none⟩ = some (.string a2) := World.cell?_alloc_at _ _ _ _ rfl
      have hzX := hbA.size
      have hsz : (⟨#[32]⟩ ++ a1 ++ ⟨#[61, 34]⟩ ++ E ++ ⟨#[34]⟩ : ByteArray).size ≤ 80000 := by rw [hab', bs_size]; exact habz
      have hsz2 : (bs ab).size ≤ 80000 := by rw [bs_size]; exact habz
      have hl1 : ([60] ++ n.data.toList ++ attL ats k).length + (bs ab).size ≤ 140737488355328 := by
        rw [List.length_append, List.length_append, data_len]; simp; omega
      have HB := hide hB
      clear hB
      go_wp2_with fail
      generalize wr.alloc (.cells #[.string a1, .string a2] 55) = wx at *
      generalize wr.heap.size = ga at *
      have TX := hide (((unhide HT).below hbX).below (Below.drew (Below.refl _ wx)))
      have hb0X : Below wx.heap.size wx wx.drew := Below.drew (Below.refl _ wx)
      have BXd := bld_below BX hb0X
      have hbXd := tr2 hbX hb0X
      have hbzX : b ≤ wx.heap.size := by omega
      go_region_with (first
        | (go_at_call 45; refine (unhide CE _ (unhide TX)).mono ?_; rintro e1 w5 ⟨rfl, hb5⟩; have d0 := cell_later hb5 k0; have d1 := cell_later hb5 k1; have B5 := bld_below BXd hb5; have hbz5 : b ≤ w5.heap.size := (by have := hb5.size; simp at this; omega); have hb05 := tr2 hbXd hb5)
        | (go_at_call 42; refine (writeString_any _ _ _ _ _ B5 hl1 hbz5).mono ?_; rintro e1 w6 ⟨rfl, B6, hb6⟩))
      all_goals
        rw [bs_toList] at B6
        have hb06 := hb05.trans (hb6.mono (unhide HZ3))
        have hbz6 : b ≤ w6.heap.size := by have := hb6.size; omega
        go_wp2
        go_roundw
        case rel => exact ⟨k + 1, by omega, by go_num, by rw [unhide HATT, ← List.append_assoc]; exact B6, by rw [unhide HATT, List.length_append]; omega, hb06, hbz6⟩
        case measure => simp [intOf]; omega
    · have hke : k = ats.length := by omega
      have hl1 : ([60] ++ n.data.toList ++ attL ats k).length + (⟨#[62]⟩ : ByteArray).size ≤ 140737488355328 := by
        rw [List.length_append, List.length_append, data_len]
        have : (⟨#[62]⟩ : ByteArray).size = 1 := rfl
        rw [this]; simp; omega
      subst hke
      go_wp2_with fail
      refine (writeString_any _ _ _ _ _ hB hl1 hbz).mono ?_
      rintro e1 w5 ⟨rfl, B5, hb5⟩
      have hb05 := hbw.trans (hb5.mono (unhide HZ3))
      go_wp2_with fail
      refine (string_any _ _ _ _ B5 (by simp)).mono ?_
      rintro e1 w6 ⟨rfl, hb6⟩
      have hb06 := hb05.trans (hb6.mono (unhide HZ3))
      go_wp2
      go_ret2
      exact ⟨rfl, hb06⟩
end Go.Proofs.YtpfnjgkfombmpaaDoor

/-
  What the reference's Wrong, Plain and Open of layer 6 do.
-/
namespace Go.Proofs.YtpfnjgkfombmpaaDoor
open Go.RowKit
set_option linter.unusedVariables false

theorem wrong_1 {n : List UInt8} {ats : List (ByteArray × ByteArray)} (h : nameB n = false) : wrongN n ats = 4 := by unfold wrongN; rw [h]; rfl
theorem wrong_2 {n : List UInt8} {ats : List (ByteArray × ByteArray)} (h : rightAs ats = false) : wrongN n ats = 4 := by unfold wrongN; rw [h, Bool.and_false]; rfl
theorem wrong_3 {n : List UInt8} {ats : List (ByteArray × ByteArray)} (h1 : nameB n = true) (h2 : rightAs ats = true) (h3 : dupF ats ats.length = true) : wrongN n ats = 8 := by
  rw [diff_dup] at h3
  unfold wrongN; rw [h1, h2, if_neg (by decide), if_pos (of_decide_eq_true h3)]
theorem wrong_4 {n : List UInt8} {ats : List (ByteArray × ByteArray)} (h1 : nameB n = true) (h2 : rightAs ats = true) (h3 : dupF ats ats.length = false) (h4 : 12 < ats.length) : wrongN n ats = 2 := by
  rw [diff_dup] at h3
  unfold wrongN; rw [h1, h2, if_neg (by decide), if_neg (of_decide_eq_false h3), if_pos h4]
theorem wrong_0 {n : List UInt8} {ats : List (ByteArray × ByteArray)} (h1 : nameB n = true) (h2 : rightAs ats = true) (h3 : dupF ats ats.length = false) (h4 : ¬ 12 < ats.length) : wrongN n ats = 0 := by
  rw [diff_dup] at h3
  unfold wrongN; rw [h1, h2, if_neg (by decide), if_neg (of_decide_eq_false h3), if_neg h4]

set_option maxHeartbeats 8000000 in
set_option maxRecDepth 100000 in
theorem rwrong_any (n : ByteArray) (ats : List (ByteArray × ByteArray)) (g o cap : Nat) (w : World) (hc : Cells2 g o ats w) (hf : Fits ats) (hn : n.size ≤ 10000) :
    Calls Tryd.prog 80 #[.string n, .slice (some ⟨g, o, none⟩) ats.length cap] w fun e w' => e = .returned (.int .i64 (wrongN n.data.toList ats)) ∧ Below w.heap.size w w' := by
  have HC := hide hc
  have HF := hide hf
  have hlen : ats.length ≤ 1000 := hf.1
  have CN := hide (fun w => rname6_any n w (by omega))
  have W1 := hide (@wrong_1 n.data.toList ats)
  have W2 := hide (@wrong_2 n.data.toList ats)
  have W3 := hide (@wrong_3 n.data.toList ats)
  have W4 := hide (@wrong_4 n.data.toList ats)
  have W0 := hide (@wrong_0 n.data.toList ats)
  have NO := hide (fun k h hk => rightF_no ats (k := k) h ats.length hk)
  clear hc hf
  generalize wrongN n.data.toList ats = wn at *
  cases hnb : nameB n.data.toList with
  | false =>
    rw [hnb] at CN
    have HV := hide (unhide W1 hnb)
    clear hnb
    go_enter Tryd.func80, Tryd.ntmps80
    go_wp2_with fail
    refine (unhide CN _).mono ?_
    rintro e w1 ⟨rfl, rfl⟩
    go_wp2
    go_ret
    exact ⟨by rw [unhide HV]; rfl, Below.refl _ _⟩
  | true =>
    rw [hnb] at CN
    have HNB := hide hnb
    clear hnb W1
    go_enter Tryd.func80, Tryd.ntmps80
    go_wp2_with fail
    refine (unhide CN _).mono ?_
    rintro e w1 ⟨rfl, hw1⟩
    obtain rfl : w = w1 := hw1.symm
    go_wp2
    go_loopw [16] (fun i wr => ∃ k : Nat, k ≤ ats.length ∧ i = .int .i64 k ∧ rightF ats k = true ∧ Below w.heap.size w wr) (fun i _ => ats.length - (intOf i).toNat)
    case atStart => exact ⟨0, Nat.zero_le _, rfl, rfl, Below.refl _ _⟩
    case round =>
      obtain ⟨k, hk, rfl, hr, hbw⟩ := hrel
      have HR := hide hr
      have hzw := hbw.size
      clear hr
      by_cases hp : k < ats.length
      · have hpi : (k : Int) < (ats.length : Int) := by omega
        obtain ⟨c1, c2⟩ := (unhide HC).below hbw k hp
        have CM := hide (fun w => rname6_any (an ats k) w (by have := (unhide HF).2 k hp; omega))
        have CG := hide (fun w => rgood6_any (av ats k) w (by have := (unhide HF).2 k hp; omega))
        have hra : rightAt ats k = (nameB (an ats k).data.toList && goodB (av ats k).data.toList) := rfl
        have NK := hide (fun h => unhide NO k h hp)
        have HRA := hide hra
        clear hra
        generalize nameB (an ats k).data.toList = nb at *
        generalize goodB (av ats k).data.toList = gb at *
        generalize an ats k = a1 at *
        generalize av ats k = a2 at *
        have hbA : Below wr.heap.size wr (wr.alloc (.cells #[.string a1, .string a2] 55)) := (Below.refl _ _).alloc (Nat.le_refl _) _
        have hbA' := tr2 hbw hbA
        cases nb with
        | false =>
          rw [Bool.false_and] at HRA
          have HV := hide (unhide W2 (unhide NK (unhide HRA)))
          go_wp2_with fail
          refine (unhide CM _).mono ?_
          rintro e w2 ⟨rfl, rfl⟩
          go_wp2
          go_ret
          exact ⟨by rw [unhide HV]; rfl, hbA'⟩
        | true =>
          rw [Bool.true_and] at HRA
          cases gb with
          | false =>
            have HV := hide (unhide W2 (unhide NK (unhide HRA)))
            go_wp2_with fail
            refine (unhide CM _).mono ?_
            rintro e w2 ⟨rfl, rfl⟩
            go_wp2_with fail
            refine (unhide CG _).mono ?_
            rintro e w3 ⟨rfl, hb3⟩
            go_wp2
            go_ret
            exact ⟨by rw [unhide HV]; rfl, tr2 hbA' hb3⟩
          | true =>
            go_wp2_with fail
            refine (unhide CM _).mono ?_
            rintro e w2 ⟨rfl, rfl⟩
            go_wp2_with fail
            refine (unhide CG _).mono ?_
            rintro e w3 ⟨rfl, hb3⟩
            have hb13 := tr2 hbA' hb3
            go_wp2
            go_roundw
            case rel => exact ⟨k + 1, by omega, by go_num, by rw [rightF, unhide HR, unhide HRA]; rfl, hb13⟩
            case measure => simp [intOf]; omega
      · have hke : k = ats.length := by omega
        have hrt : rightAs ats = true := by unfold rightAs; rw [← hke]; exact unhide HR
        have HRT := hide hrt
        have HBW := hide hbw
        clear hrt HR NO W2 hbw
        go_wp2
        go_loopw [33] (fun i wx => ∃ m : Nat, m ≤ ats.length ∧ i = .int .i64 m ∧ dupF ats m = false ∧ Below w.heap.size w wx) (fun i _ => ats.length - (intOf i).toNat)
        case atStart => exact ⟨0, Nat.zero_le _, rfl, rfl, unhide HBW⟩
        case round =>
          obtain ⟨m, hm, rfl, hd, hbx⟩ := hrel
          have HD := hide hd
          have hzx := hbx.size
          clear hd
          by_cases hq : m < ats.length
          · have hqi : (m : Int) < (ats.length : Int) := by omega
            obtain ⟨c1, c2⟩ := (unhide HC).below hbx m hq
            have hdm := @dup_more ats m
            have hsn := fun k h => @seen_more ats m k h
            have hdF : dupF ats (m + 1) = (dupF ats m || seenF ats m m) := rfl
            obtain ⟨a1, ha1⟩ : ∃ a, an ats m = a := ⟨_, rfl⟩
            obtain ⟨a2, ha2⟩ : ∃ a, av ats m = a := ⟨_, rfl⟩
            rw [ha1] at c1
            rw [ha2] at c2
            have HA1 := hide ha1
            have HDM := hide hdm
            have HSN := hide hsn
            have HDF := hide hdF
            clear ha1 ha2 hdm hsn hdF
            have hbA : Below wr.heap.size wr (wr.alloc (.cells #[.string a1, .string a2] 55)) := (Below.refl _ _).alloc (Nat.le_refl _) _
            have hbA' := tr2 hbx hbA
            have k0 : (wr.alloc (.cells #[.string a1, .string a2] 55)).cell? ⟨wr.heap.size, 0, none⟩ = some (.string a1) := World.cell?_alloc_at _ _ _ _ rfl
            have K0 := hide k0
            have HBA := hide hbA'
            clear k0 hbA' hbA
            go_wp2
            generalize wr.alloc (.cells #[.string a1, .string a2] 55) = wy at *
            generalize wr.heap.size = ga at *
            go_loopw [40] (fun j wz => ∃ q : Nat, q ≤ ats.length ∧ j = .int .i64 q ∧ (q ≤ m → seenF ats m q = false) ∧ (m < q → seenF ats m m = false) ∧ Below wy.heap.size wy wz) (fun j _ => ats.length - (intOf j).toNat)
            case atStart => exact ⟨0, Nat.zero_le _, rfl, fun _ => rfl, fun h => by omega, Below.refl _ _⟩
            case round =>
              obtain ⟨q, hq2, rfl, hs1, hs2, hbz⟩ := hrel
              have HS1 := hide hs1
              have HS2 := hide hs2
              have hzz := hbz.size
              have hb0z := tr2 (unhide HBA) hbz
              clear hs1 hs2
              by_cases hq3 : q < ats.length
              · have hq3i : (q : Int) < (ats.length : Int) := by omega
                obtain ⟨d1, d2⟩ := (unhide HC).below hb0z q hq3
                have k0 := cell_later hbz (unhide K0)
                have hsF : seenF ats m (q + 1) = (seenF ats m q || decide (an ats q = an ats m)) := rfl
                have hbB : Below wr.heap.size wr (wr.alloc (.cells #[.string (an ats q), .string (av ats q)] 55)) := (Below.refl _ _).alloc (Nat.le_refl _) _
                have hgz : ga < wr.heap.size := by
                  rcases Nat.lt_or_ge ga wr.heap.size with h | h
                  · exact h
                  · exfalso
                    unfold World.cell? at k0
                    rw [Array.getElem?_eq_none h] at k0; simp at k0
                by_cases hqm : q < m
                · have hqmi : (q : Int) < (m : Int) := by omega
                  by_cases heq : an ats q = an ats m
                  · have hv := unhide W3 (unhide HNB) (unhide HRT) (unhide HDM (unhide HSN q heq m hqm) ats.length hq)
                    have HV := hide hv
                    have hee : a1 = an ats q := (heq.trans (unhide HA1)).symm
                    have hb2 := beq_yes hee
                    clear hv heq hee hsF
                    generalize an ats q = b1 at *
                    generalize av ats q = b2 at *
                    go_wp2
                    go_ret
                    exact ⟨by rw [unhide HV]; rfl, tr2 hb0z hbB⟩
                  · have hne : ¬ an ats q = a1 := fun h => heq (h.trans (unhide HA1).symm)
                    have hne' : ¬ a1 = an ats q := fun h => hne h.symm
                    have hb2 := beq_no hne'
                    have hsf2 : seenF ats m (q + 1) = false := by rw [hsF, unhide HS1 (by omega), decide_eq_false heq]; rfl
                    have HSF := hide hsf2
                    clear hsF hsf2 heq hne hne'
                    generalize an ats q = b1 at *
                    generalize av ats q = b2 at *
                    go_wp2
                    go_roundw
                    case rel => exact ⟨q + 1, by omega, by go_num, fun _ => unhide HSF, fun h => by omega, tr2 hbz hbB⟩
                    case measure => simp [intOf]; omega
                · have hqmi : decide ((q : Int) < (m : Int)) = false := decide_eq_false (by omega)
                  have hsm : seenF ats m m = false := by
                    by_cases e : q = m
                    · have := unhide HS1 (by omega); rw [e] at this; exact this
                    · exact unhide HS2 (by omega)
                  have HSM := hide hsm
                  clear hsm hsF
                  generalize an ats q = b1 at *
                  generalize av ats q = b2 at *
                  go_wp2
                  go_roundw
                  case rel => exact ⟨q + 1, by omega, by go_num, fun h => by omega, fun _ => unhide HSM, tr2 hbz hbB⟩
                  case measure => simp [intOf]; omega
              · have hdn : dupF ats (m + 1) = false := by rw [unhide HDF, unhide HD, unhide HS2 (by omega)]; rfl
                have HDN := hide hdn
                clear hdn
                go_wp2
                go_roundw
                case rel => exact ⟨m + 1, by omega, by go_num, unhide HDN, hb0z⟩
                case measure => simp [intOf]; omega
          · have hme : m = ats.length := by omega
            have hdl : dupF ats ats.length = false := by rw [← hme]; exact unhide HD
            by_cases h12 : 12 < ats.length
            · have hi : (12 : Int) < (ats.length : Int) := by omega
              have HV := hide (unhide W4 (unhide HNB) (unhide HRT) hdl h12)
              clear hdl
              go_wp2
              go_ret
              exact ⟨by rw [unhide HV]; rfl, hbx⟩
            · have hi : ¬ (12 : Int) < (ats.length : Int) := by omega
              have HV := hide (unhide W0 (unhide HNB) (unhide HRT) hdl h12)
              clear hdl
              go_wp2
              go_ret
              exact ⟨by rw [unhide HV]; rfl, hbx⟩

theorem openV_0 {n : List UInt8} {ats : List (ByteArray × ByteArray)} (h : wrongN n ats = 0) : openV n ats = .tuple #[.string (bs (openL n ats)), .int .i64 0] := by unfold openV; rw [h]; rfl
theorem openV_1 {n : List UInt8} {ats : List (ByteArray × ByteArray)} (h : ¬ wrongN n ats = 0) : openV n ats = .tuple #[.string ⟨#[]⟩, .int .i64 (wrongN n ats)] := by unfold openV; rw [if_neg h]
end Go.Proofs.YtpfnjgkfombmpaaDoor
