/-
  What the quotients of the document's answer for layer 1 return, for any words: MulDiv, DivUp; the sum of a list. No condition but that the numbers are words.
-/
import Derived.Test.YtiogfgkfipekbaaRef1b
import Derived.Outline
import Derived.Deep.RegionHeld3
namespace Go.Proofs.Ytiogfgkfipekbaa
set_option linter.unusedVariables false
set_option linter.unusedSimpArgs false
open Go.ChangeShapes Go.WideShapes Go.ChangeAt Go.RowKit
attribute [local go_sem] alloc_drewN setCell_drewN

theorem pow2_pos (k : Nat) : 0 < (2 : Int) ^ k := Int.pow_pos (by decide)
theorem pow2_succ (k : Nat) : (2 : Int) ^ (k + 1) = 2 * 2 ^ k := by rw [Int.pow_succ, Int.mul_comm]
theorem pow2_le {j k : Nat} (h : j ≤ k) : (2 : Int) ^ j ≤ 2 ^ k := by
  induction h with
  | refl => exact Int.le_refl _
  | step h ih => rw [pow2_succ]; have := pow2_pos j; omega

/-- The number with its low k bits struck. -/
def hi (q : Int) (k : Nat) : Int := q / 2 ^ k * 2 ^ k
theorem hi_zero (q : Int) : hi q 0 = q := by unfold hi; simp
theorem hi_top (q : Int) (k : Nat) (h0 : 0 ≤ q) (h : q < 2 ^ k) : hi q k = 0 := by unfold hi; rw [Int.ediv_eq_zero_of_lt h0 h, Int.zero_mul]
theorem hi_nonneg (q : Int) (k : Nat) (h0 : 0 ≤ q) : 0 ≤ hi q k := Int.mul_nonneg (Int.ediv_nonneg h0 (Int.le_of_lt (pow2_pos k))) (Int.le_of_lt (pow2_pos k))
theorem hi_room (q : Int) (k n : Nat) (hk : k ≤ n) (h0 : 0 ≤ q) (h : q < 2 ^ n) : hi q k + 2 ^ k ≤ 2 ^ n := by
  obtain ⟨j, rfl⟩ := Nat.exists_eq_add_of_le hk
  have e : (2 : Int) ^ (k + j) = 2 ^ j * 2 ^ k := by rw [Int.pow_add, Int.mul_comm]
  rw [e] at h
  have h2 : q / 2 ^ k < 2 ^ j := Int.ediv_lt_of_lt_mul (pow2_pos k) h
  have h3 : (q / 2 ^ k + 1) * 2 ^ k ≤ 2 ^ j * 2 ^ k := Int.mul_le_mul_of_nonneg_right (by omega) (Int.le_of_lt (pow2_pos k))
  rw [Int.add_mul, Int.one_mul] at h3
  unfold hi
  rw [e]
  exact h3
theorem hi_step (q : Int) (k : Nat) : hi q k = if hi q (k + 1) + 2 ^ k ≤ q then hi q (k + 1) + 2 ^ k else hi q (k + 1) := by
  unfold hi
  have hp := pow2_pos k
  have e : (2 : Int) ^ (k + 1) = 2 ^ k * 2 := by rw [Int.pow_succ]
  rw [e, ← Int.ediv_ediv_of_nonneg (Int.le_of_lt hp)]
  generalize (2 : Int) ^ k = P at *
  have h1 := Int.mul_ediv_add_emod q P
  have h2 := Int.emod_lt_of_pos q hp
  have h3 := Int.emod_nonneg q (Int.ne_of_gt hp)
  generalize q / P = d at *
  generalize q % P = r at *
  have e2 : d / 2 * (P * 2) = 2 * (d / 2 * P) := by rw [Int.mul_comm P 2, ← Int.mul_assoc, Int.mul_comm (d / 2) 2, Int.mul_assoc]
  rw [e2]
  rcases Int.emod_two_eq d with h | h
  · have e3 : d * P = 2 * (d / 2 * P) := by
      have : d = 2 * (d / 2) := by omega
      rw [← Int.mul_assoc, ← this]
    rw [e3]
    rw [Int.mul_comm P d, e3] at h1
    rw [if_neg (by omega)]
  · have e3 : d * P = 2 * (d / 2 * P) + P := by
      have : d = 2 * (d / 2) + 1 := by omega
      rw [← Int.mul_assoc]
      calc d * P = (2 * (d / 2) + 1) * P := by rw [← this]
        _ = _ := by rw [Int.add_mul, Int.one_mul]
    rw [e3]
    rw [Int.mul_comm P d, e3] at h1
    rw [if_pos (by omega)]

/-- A word's bits, laid one by one from the highest: at each step the number is its high bits. -/
theorem hi_bit (q : Int) (k : Nat) (hk : k < 64) (h0 : 0 ≤ q) (h : q ≤ 18446744073709551615) :
    0 ≤ hi q (k + 1) ∧ 0 < (2 : Int) ^ k ∧ (2 : Int) ^ k ≤ 9223372036854775808 ∧ hi q (k + 1) + 2 ^ k ≤ 18446744073709551615 ∧
    (hi q (k + 1) + 2 ^ k ≤ q → hi q k = hi q (k + 1) + 2 ^ k) ∧ (¬ hi q (k + 1) + 2 ^ k ≤ q → hi q k = hi q (k + 1)) := by
  have h1 := hi_nonneg q (k + 1) h0
  have h2 := hi_room q (k + 1) 64 (by omega) h0 (by omega)
  have h3 := hi_step q k
  have h4 := pow2_pos k
  have h5 := pow2_le (j := k) (k := 63) (by omega)
  rw [pow2_succ] at h2
  refine ⟨h1, h4, by omega, by omega, fun h => ?_, fun h => ?_⟩
  · rw [if_pos h] at h3; exact h3
  · rw [if_neg h] at h3; exact h3

/-- A product of two, divided by a third one, capped; the greatest number where that is 0. -/
def mdiv (a b c : Int) : Int := if c = 0 then 18446744073709551615 else cap (a * b / c)

/-- A quotient, rounded up, capped where there is none. -/
def up (a b : Int) : Int := if a = 0 then 0 else if b = 0 then 18446744073709551615 else (a - 1) / b + 1

end Go.Proofs.Ytiogfgkfipekbaa
