/-
  Package gate: whether a time is one for which Next looks. No condition but that the number is a word.
-/
import Derived.Test.YtmkgadndfiiacaaGt10
namespace Go.Proofs.Ytmkgadndfiiacaa
set_option linter.unusedVariables false
set_option linter.unusedSimpArgs false
open Go.ChangeShapes Go.WideShapes Go.ChangeAt Go.RowKit
attribute [local go_sem] alloc_drewN setCell_drewN

theorem intime_no (x : Int) (h : 9223372036854775808 < x) (w : World) : Calls Try.prog 90 #[.int .u64 x] w fun e w' => e = .returned (.tuple #[.int .u64 0, .bool false]) ∧ w' = w := by
  go_enter Try.func90, Try.ntmps90
  go_wp2
  go_ret2
  exact ⟨rfl, rfl⟩
theorem intime_yes (x : Int) (h : x ≤ 9223372036854775808) (w : World) : Calls Try.prog 90 #[.int .u64 x] w fun e w' => e = .returned (.tuple #[.int .u64 x, .bool true]) ∧ w' = w := by
  have h2 : ¬ 9223372036854775808 < x := by omega
  clear h
  go_enter Try.func90, Try.ntmps90
  go_wp2
  go_ret2
  exact ⟨rfl, rfl⟩
end Go.Proofs.Ytmkgadndfiiacaa
