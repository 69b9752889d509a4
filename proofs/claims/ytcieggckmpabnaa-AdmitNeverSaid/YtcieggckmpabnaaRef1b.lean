/-
  What the other functions of the document's answer for layer 1 (pacemakerref01) return, for any words: differences, products, doublings, sums, quotients, which product is less. No condition but that the numbers are words.
-/
import Derived.Test.YtcieggckmpabnaaRef1
import Derived.Outline
namespace Go.Proofs.Ytcieggckmpabnaa
set_option linter.unusedVariables false
set_option linter.unusedSimpArgs false
open Go.ChangeShapes Go.WideShapes Go.ChangeAt Go.RowKit
attribute [local go_sem] alloc_drewN setCell_drewN

/-- A difference that stops at 0. -/
def sub0 (a b : Int) : Int := if a < b then 0 else a - b

def shl (a : Int) (k : Nat) : Int := cap (a * 2 ^ k)
theorem shl_zero (a : Int) (h : a ≤ 18446744073709551615) : shl a 0 = a := by unfold shl; rw [Int.pow_zero, Int.mul_one]; exact cap_of h
theorem shl_nonneg (a : Int) (h : 0 ≤ a) (k : Nat) : 0 ≤ a * 2 ^ k := Int.mul_nonneg h (Int.pow_nonneg (by decide))
theorem shl_wd (a : Int) (h : 0 ≤ a) (k : Nat) : 0 ≤ shl a k ∧ shl a k ≤ 18446744073709551615 := cap_wd (shl_nonneg a h k)
theorem shl_succ (a : Int) (h : 0 ≤ a) (k : Nat) : cap (shl a k + shl a k) = shl a (k + 1) := by
  have h1 := shl_nonneg a h k
  have e : a * 2 ^ (k + 1) = a * 2 ^ k + a * 2 ^ k := by rw [Int.pow_succ, ← Int.mul_assoc]; omega
  unfold shl
  rw [e]
  generalize a * 2 ^ k = n at *
  unfold cap
  split <;> split <;> (try split) <;> omega

end Go.Proofs.Ytcieggckmpabnaa
