/-
  What the other functions of the document's answer for layer 1 (pacemakerref01) return, for any words: differences, products, doublings, sums, quotients, which product is less. No condition but that the numbers are words.
-/
import Derived.Test.YtapjebhdgcpdjaaRef1
import Derived.Outline
namespace Go.Proofs.Ytapjebhdgcpdjaa
set_option linter.unusedVariables false
set_option linter.unusedSimpArgs false
open Go.ChangeShapes Go.WideShapes Go.ChangeAt Go.RowKit
attribute [local go_sem] alloc_drewN setCell_drewN

/-- A difference that stops at 0. -/
def sub0 (a b : Int) : Int := if a < b then 0 else a - b

theorem under_ref (a b c d : Int) (ha0 : 0 ≤ a) (ha1 : a ≤ 18446744073709551615) (hb0 : 0 ≤ b) (hb1 : b ≤ 18446744073709551615) (hc0 : 0 ≤ c) (hc1 : c ≤ 18446744073709551615) (hd0 : 0 ≤ d) (hd1 : d ≤ 18446744073709551615) (w : World) :
    Calls Try.prog 60 #[.int .u64 a, .int .u64 b, .int .u64 c, .int .u64 d] w fun e w' => e = .returned (.bool (decide (a * b < c * d))) ∧ Below w.heap.size w w' := by
  go_enter Try.func60, Try.ntmps60
  go_wp2_with fail
  refine (times_any _ _ (by omega) (by omega) (by omega) (by omega) _).mono ?_
  rintro e w' ⟨z0, z1, z2, z3, rfl, hz, hb⟩
  go_wp2_with fail
  refine (times_any _ _ (by omega) (by omega) (by omega) (by omega) _).mono ?_
  rintro e w'' ⟨u0, u1, u2, u3, rfl, hu, hp⟩
  go_wp2_with fail
  refine (less_any _ _ _ _ _ _ _ _ _ _ hz hu _).mono ?_
  rintro e w3 ⟨rfl, hc⟩
  go_wp2
  go_ret
  have s1 := hb.size
  have s2 := hp.size
  exact ⟨rfl, ((hb.trans (hp.mono (by omega))).trans (hc.mono (by omega)))⟩

/-! Doublings. -/
def shl (a : Int) (k : Nat) : Int := cap (a * 2 ^ k)
theorem shl_zero (a : Int) (h : a ≤ 18446744073709551615) : shl a 0 = a := by unfold shl; rw [Int.pow_zero, Int.mul_one]; exact cap_of h
theorem shl_nonneg (a : Int) (h : 0 ≤ a) (k : Nat) : 0 ≤ a * 2 ^ k := Int.mul_nonneg h (Int.pow_nonneg (by decide))
theorem shl_wd (a : Int) (h : 0 ≤ a) (k : Nat) : 0 ≤ shl a k ∧ shl a k ≤ 18446744073709551615 := cap_wd (shl_nonneg a h k)
theorem shl_succ (a : Int) (h : 0 ≤ a) (k : Nat) : cap (shl a k + shl a k) = shl a (k + 1) := by
  have h1 := shl_nonneg a h k
  have e : a * 2 ^ (k + 1) = a * 2 ^ k + a * 2 ^ k := by rw [Int.pow_succ, ← Int.mul_assoc]; omega
  unfold shl
  rw [e]
  generalize a * 2 ^ k = n at *
  unfold cap
  split <;> split <;> (try split) <;> omega

end Go.Proofs.Ytapjebhdgcpdjaa
