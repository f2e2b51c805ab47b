/-
  What strings.HasPrefix and strings.CutPrefix do: the library's contracts, laid at this program.
-/
import Derived.Test.YtakjlolmmoladaaDoorBase
import Derived.Shelf.Small.Wraps
import Derived.Shelf.Strings.Prefix
namespace Go.Proofs.YtakjlolmmoladaaDoor
open Go.RowKit
set_option linter.unusedVariables false

def Tryd.renH : Go.Shelf.Ren := ⟨fun | 99 => 36 | 103 => 33 | 206 => 44 | 210 => 43 | n => n,
  fun | 3 => 3 | 4 => 4 | 9 => 9 | 24 => 62 | n => n,
  fun n => n⟩
theorem Tryd.lays99 : Go.Proofs.Lays.n99 Tryd.prog Tryd.renH where
  mixed := by kernel_rfl
  f99 := Tryd.func36.trans (congrArg some (by kernel_rfl))
  f206 := Tryd.func44.trans (congrArg some (by kernel_rfl))
  t3 := Tryd.underlying3
  a3 := Tryd.isAgg3
  z3 := Tryd.sizeOf3
  v3 := Tryd.zeroValue3
  t4 := Tryd.underlying4
  a4 := Tryd.isAgg4
  z4 := Tryd.sizeOf4
  v4 := Tryd.zeroValue4
  t9 := Tryd.underlying9
  a9 := Tryd.isAgg9
  z9 := Tryd.sizeOf9
  v9 := Tryd.zeroValue9
theorem Tryd.lays103 : Go.Proofs.Lays.n103 Tryd.prog Tryd.renH where
  mixed := by kernel_rfl
  f103 := Tryd.func33.trans (congrArg some (by kernel_rfl))
  f206 := Tryd.func44.trans (congrArg some (by kernel_rfl))
  f210 := Tryd.func43.trans (congrArg some (by kernel_rfl))
  t3 := Tryd.underlying3
  a3 := Tryd.isAgg3
  z3 := Tryd.sizeOf3
  v3 := Tryd.zeroValue3
  t4 := Tryd.underlying4
  a4 := Tryd.isAgg4
  z4 := Tryd.sizeOf4
  v4 := Tryd.zeroValue4
  t9 := Tryd.underlying9
  a9 := Tryd.isAgg9
  z9 := Tryd.sizeOf9
  v9 := Tryd.zeroValue9
  t24 := Tryd.underlying62
  a24 := Tryd.isAgg62
  z24 := Tryd.sizeOf62
  v24 := Tryd.zeroValue62

theorem hasPrefix_any (s p : ByteArray) (w : World) :
    Calls Tryd.prog 36 #[.string s, .string p] w fun e w' => e = .returned (.bool (p.data.toList.isPrefixOf s.data.toList)) ∧ w' = w := Any.strings_HasPrefix Tryd.lays99 s p w
theorem cutPrefix_yes (s p : ByteArray) (w : World) (h : p.data.toList.isPrefixOf s.data.toList = true) :
    Calls Tryd.prog 33 #[.string s, .string p] w fun e w' => e = .returned (.tuple #[.string (bs (s.data.toList.drop p.data.toList.length)), .bool true]) ∧ w' = w := by
  refine (Any.strings_CutPrefix Tryd.lays103 s p w).mono ?_
  rintro e w' ⟨rfl, rfl⟩
  have h' : Lib.hasPrefix s.data.toList p.data.toList = true := h
  rw [Lib.trimPrefix, h', if_pos rfl]
  exact ⟨rfl, rfl⟩
theorem cutPrefix_no (s p : ByteArray) (w : World) (h : p.data.toList.isPrefixOf s.data.toList = false) :
    Calls Tryd.prog 33 #[.string s, .string p] w fun e w' => e = .returned (.tuple #[.string s, .bool false]) ∧ w' = w := by
  refine (Any.strings_CutPrefix Tryd.lays103 s p w).mono ?_
  rintro e w' ⟨rfl, rfl⟩
  have h' : Lib.hasPrefix s.data.toList p.data.toList = false := h
  rw [Lib.trimPrefix, h', if_neg (by decide)]
  exact ⟨by rw [show (⟨s.data.toList.toArray⟩ : ByteArray) = s from bs_self s], rfl⟩
end Go.Proofs.YtakjlolmmoladaaDoor
