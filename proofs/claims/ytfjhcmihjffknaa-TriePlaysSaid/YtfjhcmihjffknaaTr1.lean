/-
  Package trie: the bit that follows a prefix. No condition but that the node stands.
-/
import Derived.Test.YtfjhcmihjffknaaAdr3
import Derived.Test.YtfjhcmihjffknaaRingMv
import Derived.Deep.AppendLies
namespace Go.Proofs.Ytfjhcmihjffknaa
set_option linter.unusedVariables false
set_option linter.unusedSimpArgs false
open Go.ChangeShapes Go.WideShapes Go.ChangeAt Go.RowKit
attribute [local go_sem] alloc_drewN setCell_drewN

/-- The bit of an address that follows its first n. -/
def brn (n a : Int) : Int := (a * 2 ^ n.toNat % 4294967296) / 2147483648
theorem branch_at {w : World} {B : Nat} {n : Int} (hc : w.cell? ⟨B, 1, none⟩ = some (.int .i64 n)) (n0 : 0 ≤ n) (n1 : n ≤ 32) (a : Int) (a0 : 0 ≤ a) (a1 : a ≤ 4294967295) : Calls Try.prog 85 #[.pointer (some ⟨B, 0, none⟩), .int .u32 a] w fun e w' => e = .returned (.int .i64 (brn n a)) ∧ w' = w := by
  go_enter Try.func85, Try.ntmps85
  go_wp2
  trace_state
  go_ret
  exact ⟨rfl, rfl⟩
end Go.Proofs.Ytfjhcmihjffknaa
