/-
  The plain arithmetic of a division of two words by one, a digit of 32 bits at a time. No Go in it.
-/
import Derived.Test.YtiogfgkfipekbaaRef1c
import Derived.Laws.Bits64b
namespace Go.Proofs.Ytiogfgkfipekbaa
set_option linter.unusedVariables false
set_option linter.unusedSimpArgs false
open Go.RowKit

/-- A digit of the quotient: what the test asks, what a guess too high by a step leaves, where the loop may break off. (Y the divisor, y1 and y0 its digits; u d the number.) -/
theorem digit_test {u d y1 y0 q : Int} (hd : 0 ≤ d ∧ d ≤ 4294967295) (hy0 : 0 ≤ y0 ∧ y0 ≤ 4294967295) (hy1 : 2147483648 ≤ y1) (hq : q = (u * 4294967296 + d) / (y1 * 4294967296 + y0)) (g : Int) :
    (g * y0 > 4294967296 * (u - g * y1) + d ↔ q < g) ∧ (g ≤ 4294967296 → 0 ≤ g → 4294967296 ≤ u - g * y1 → g ≤ q) := by
  have hD : 0 < y1 * 4294967296 + y0 := by omega
  have h := Int.le_ediv_iff_mul_le (a := g) (b := u * 4294967296 + d) hD
  rw [← hq] at h
  have e : g * (y1 * 4294967296 + y0) = g * y1 * 4294967296 + g * y0 := by rw [Int.mul_add, Int.mul_assoc]
  rw [e] at h
  refine ⟨by constructor <;> intro h1 <;> omega, fun h1 h0 h2 => ?_⟩
  have : g * y0 ≤ 4294967296 * 4294967295 := Int.mul_le_mul h1 hy0.2 hy0.1 (by omega)
  omega
theorem digit_bounds {u d y1 y0 q : Int} (hu : 0 ≤ u) (hd : 0 ≤ d ∧ d ≤ 4294967295) (hy0 : 0 ≤ y0 ∧ y0 ≤ 4294967295) (hy1 : 2147483648 ≤ y1) (hu1 : u < y1 * 4294967296 + y0) (hq : q = (u * 4294967296 + d) / (y1 * 4294967296 + y0)) :
    0 ≤ q ∧ q ≤ 4294967295 ∧ q ≤ u / y1 ∧ u / y1 ≤ 4294967297 := by
  have hD : 0 < y1 * 4294967296 + y0 := by omega
  have q0 : 0 ≤ q := by rw [hq]; exact Int.ediv_nonneg (by omega) (Int.le_of_lt hD)
  have q1 : q < 4294967296 := by
    rw [hq]
    apply Int.ediv_lt_of_lt_mul hD
    omega
  have m : q * (y1 * 4294967296 + y0) ≤ u * 4294967296 + d := by rw [hq]; exact Int.ediv_mul_le _ (Int.ne_of_gt hD)
  have e : q * (y1 * 4294967296 + y0) = q * y1 * 4294967296 + q * y0 := by rw [Int.mul_add, Int.mul_assoc]
  rw [e] at m
  have p0 : 0 ≤ q * y0 := Int.mul_nonneg q0 hy0.1
  refine ⟨q0, by omega, ?_, ?_⟩
  · rw [Int.le_ediv_iff_mul_le (by omega)]; omega
  · have : u / y1 < 4294967298 := by
      apply Int.ediv_lt_of_lt_mul (by omega)
      omega
    omega
/-- What is left over: below the divisor. -/
theorem digit_rest {u d Y q : Int} (hY : 0 < Y) (hq : q = (u * 4294967296 + d) / Y) : 0 ≤ u * 4294967296 + d - q * Y ∧ u * 4294967296 + d - q * Y < Y := by
  have h1 := Int.mul_ediv_add_emod (u * 4294967296 + d) Y
  have h2 := Int.emod_lt_of_pos (u * 4294967296 + d) hY
  have h3 := Int.emod_nonneg (u * 4294967296 + d) (Int.ne_of_gt hY)
  rw [← hq, Int.mul_comm] at h1
  omega
/-- Two digits, one behind the other, are the quotient. -/
theorem two_digits {u d1 d0 Y : Int} (hY : 0 < Y) (hu : 0 ≤ u) (h1 : 0 ≤ d1) (h0 : 0 ≤ d0) (hd : d0 ≤ 4294967295) :
    (u * 4294967296 + d1) / Y * 4294967296 + ((u * 4294967296 + d1 - (u * 4294967296 + d1) / Y * Y) * 4294967296 + d0) / Y = (u * 18446744073709551616 + (d1 * 4294967296 + d0)) / Y := by
  have e : u * 18446744073709551616 + (d1 * 4294967296 + d0) = ((u * 4294967296 + d1 - (u * 4294967296 + d1) / Y * Y) * 4294967296 + d0) + Y * ((u * 4294967296 + d1) / Y * 4294967296) := by
    generalize (u * 4294967296 + d1) / Y = q
    have e2 : Y * (q * 4294967296) = q * Y * 4294967296 := by rw [← Int.mul_assoc, Int.mul_comm Y q]
    rw [e2]
    omega
  rw [e, Int.add_mul_ediv_left _ _ (Int.ne_of_gt hY)]
  omega
/-- The divisor and the number, both shifted: one quotient. -/
theorem shifted (n y : Int) (s : Nat) (hy : 0 < y) : n * 2 ^ s / (y * 2 ^ s) = n / y := by
  have := pow2_pos s
  exact Int.mul_ediv_mul_of_pos_left _ _ this

theorem mask32 (a : Int) (h0 : 0 ≤ a) (h1 : a ≤ 18446744073709551615) : bits .and .u64 a 4294967295 = a % 4294967296 := by
  obtain ⟨a, rfl⟩ := Int.eq_ofNat_of_zero_le h0
  have h := bits_and_u64_nat a 4294967295 (by omega) (by omega)
  have e : a &&& 4294967295 = a % 4294967296 := Nat.and_two_pow_sub_one_eq_mod a 32
  rw [e] at h
  have h' : bits .and .u64 (a : Int) 4294967295 = ((a % 4294967296 : Nat) : Int) := h
  rw [h']
  omega
/-- An 'or' of a number of whole 2^s and one below 2^s is their sum. -/
theorem or_apart (x z : Nat) (s : Nat) (hz : z < 2 ^ s) (h : x * 2 ^ s + z < 18446744073709551616) : bits .or .u64 ((x * 2 ^ s : Nat) : Int) (z : Int) = ((x * 2 ^ s + z : Nat) : Int) := by
  have h2 := bits_or_u64_nat (x * 2 ^ s) z (by omega) (by omega)
  rw [h2]
  have : x * 2 ^ s ||| z = x * 2 ^ s + z := by
    rw [Nat.mul_comm, Nat.two_pow_add_eq_or_of_lt hz]
  rw [this]

theorem shift_parts (h l y : Int) (s : Nat) (hs : s ≤ 63) (hh0 : 0 ≤ h) (hh : h < y) (hl0 : 0 ≤ l) (hl1 : l ≤ 18446744073709551615) (n1 : y * 2 ^ s ≤ 18446744073709551615) :
    ∃ U L : Int, bits .or .u64 (IntKind.u64.wrap (h * 2 ^ s)) (l / 2 ^ (64 - s)) = U ∧ IntKind.u64.wrap (l * 2 ^ s) = L ∧ 0 ≤ U ∧ U < y * 2 ^ s ∧ 0 ≤ L ∧ L ≤ 18446744073709551615 ∧
      U * 18446744073709551616 + L = (h * 18446744073709551616 + l) * 2 ^ s := by
  have hP := pow2_pos s
  have hR := pow2_pos (64 - s)
  have eW : (2 : Int) ^ (64 - s) * 2 ^ s = 18446744073709551616 := by
    rw [← Int.pow_add, show 64 - s + s = 64 from by omega]; rfl
  have hlq : l / 2 ^ (64 - s) < 2 ^ s := by
    apply Int.ediv_lt_of_lt_mul hR
    rw [Int.mul_comm, eW]; omega
  have hlq0 : 0 ≤ l / 2 ^ (64 - s) := Int.ediv_nonneg hl0 (Int.le_of_lt hR)
  have hyP : (y - 1) * 2 ^ s = y * 2 ^ s - 2 ^ s := by rw [Int.sub_mul, Int.one_mul]
  have hhP : h * 2 ^ s ≤ (y - 1) * 2 ^ s := Int.mul_le_mul_of_nonneg_right (by omega) (Int.le_of_lt hP)
  have hh0P : 0 ≤ h * 2 ^ s := Int.mul_nonneg hh0 (Int.le_of_lt hP)
  refine ⟨h * 2 ^ s + l / 2 ^ (64 - s), l * 2 ^ s % 18446744073709551616, ?_, ?_, by omega, by omega, by omega, by omega, ?_⟩
  · have ew : IntKind.u64.wrap (h * 2 ^ s) = h * 2 ^ s := by rw [IntKind.wrap_u64]; omega
    rw [ew]
    obtain ⟨h, rfl⟩ := Int.eq_ofNat_of_zero_le hh0
    obtain ⟨z, hz⟩ := Int.eq_ofNat_of_zero_le hlq0
    rw [hz] at hlq ⊢
    have := or_apart h z s (by exact_mod_cast hlq) (by have : ((h * 2 ^ s + z : Nat) : Int) < 18446744073709551616 := by (push_cast; omega)
                                                       omega)
    push_cast at this
    exact this
  · rw [IntKind.wrap_u64]
  · have h1 := Int.mul_ediv_add_emod l (2 ^ (64 - s))
    have h2 : l * 2 ^ s % 18446744073709551616 = l % 2 ^ (64 - s) * 2 ^ s := by
      rw [← eW, Int.mul_comm l, Int.mul_comm (2 ^ (64 - s)) (2 ^ s), Int.mul_emod_mul_of_pos _ _ hP, Int.mul_comm]
    rw [h2]
    have h3 : l * 2 ^ s = l / 2 ^ (64 - s) * 18446744073709551616 + l % 2 ^ (64 - s) * 2 ^ s := by
      have : l * 2 ^ s = (2 ^ (64 - s) * (l / 2 ^ (64 - s)) + l % 2 ^ (64 - s)) * 2 ^ s := by rw [h1]
      rw [this, Int.add_mul, Int.mul_comm (2 ^ (64 - s)) (l / 2 ^ (64 - s)), Int.mul_assoc, eW]
    rw [Int.add_mul, Int.add_mul, h3]
    have h4 : h * 18446744073709551616 * 2 ^ s = h * 2 ^ s * 18446744073709551616 := by rw [Int.mul_assoc, Int.mul_comm 18446744073709551616, ← Int.mul_assoc]
    rw [h4]
    omega
end Go.Proofs.Ytiogfgkfipekbaa
