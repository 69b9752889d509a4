/-
  math/bits.Div64 returns the quotient of two words by one, for any divisor above the high word: the library's own text, walked. Condition: the divisor is above the high word.
-/
import Derived.Test.YtiogfgkfipekbaaSat
import Derived.Test.YtiogfgkfipekbaaDivMath
import Derived.Deep.CutBlock
import Derived.Deep.DeepCutAuto
import Derived.Deep.LoopGhost
import Derived.Lib.ItoaNum
namespace Go.Proofs.Ytiogfgkfipekbaa
set_option linter.unusedVariables false
set_option linter.unusedSimpArgs false
open Go.ChangeShapes Go.WideShapes Go.ChangeAt Go.RowKit

/-- Of a word above 0: how far it may be shifted. -/
theorem lz_room (y : Int) (hy : 0 < y) (hy1 : y ≤ 18446744073709551615) : ∃ s : Nat, s ≤ 63 ∧ (64 - (Lib.bitLen y.toNat : Int)) = s ∧ y * 2 ^ s ≤ 18446744073709551615 ∧ 9223372036854775808 ≤ y * 2 ^ s := by
  obtain ⟨y, rfl⟩ := Int.eq_ofNat_of_zero_le (Int.le_of_lt hy)
  obtain ⟨h1, h2, h3⟩ := Lib.bitLenAux_bounds 64 y (by omega) (by omega)
  have h4 := Lib.bitLen_le y 64 (Nat.le_refl _) (by omega)
  have e : Lib.bitLen y = Lib.bitLenAux 64 y := rfl
  rw [← e] at h1 h2 h3
  rw [Int.toNat_natCast]
  generalize Lib.bitLen y = b at *
  refine ⟨64 - b, by omega, by omega, ?_, ?_⟩
  · have k : y * 2 ^ (64 - b) < 2 ^ b * 2 ^ (64 - b) := Nat.mul_lt_mul_of_pos_right h3 (Nat.two_pow_pos _)
    rw [← Nat.pow_add, show b + (64 - b) = 64 from by omega] at k
    have : ((y * 2 ^ (64 - b) : Nat) : Int) < 18446744073709551616 := by omega
    push_cast at this
    omega
  · have k : 2 ^ (b - 1) * 2 ^ (64 - b) ≤ y * 2 ^ (64 - b) := Nat.mul_le_mul_right _ h2
    rw [← Nat.pow_add, show b - 1 + (64 - b) = 63 from by omega] at k
    have : (9223372036854775808 : Int) ≤ ((y * 2 ^ (64 - b) : Nat) : Int) := by omega
    push_cast at this
    omega

end Go.Proofs.Ytiogfgkfipekbaa
