/-
  What sat.DivUp returns: a quotient, rounded up. No condition but that the numbers are words.
-/
import Derived.Test.YtgmdhanbeafagaaSat
namespace Go.Proofs.Ytgmdhanbeafagaa
set_option linter.unusedVariables false
set_option linter.unusedSimpArgs false
open Go.ChangeShapes Go.WideShapes Go.ChangeAt Go.RowKit

theorem sat_divup (a b : Int) (ha0 : 0 ≤ a) (ha1 : a ≤ 18446744073709551615) (hb0 : 0 ≤ b) (hb1 : b ≤ 18446744073709551615) (w : World) :
    Calls Try.prog 69 #[.int .u64 a, .int .u64 b] w fun e w' => e = .returned (.int .u64 (up a b)) ∧ w = w' := by
  unfold up
  by_cases h1 : a = 0
  · subst h1
    rw [if_pos rfl]
    go_enter Try.func69, Try.ntmps69
    go_wp2
    go_ret
    exact ⟨rfl, rfl⟩
  · rw [if_neg h1]
    by_cases h2 : b = 0
    · subst h2
      rw [if_pos rfl]
      go_enter Try.func69, Try.ntmps69
      go_wp2
      go_ret
      exact ⟨rfl, rfl⟩
    · rw [if_neg h2]
      have q0 : 0 ≤ (a - 1) / b := Int.ediv_nonneg (by omega) (by omega)
      have q1 : (a - 1) / b ≤ 18446744073709551614 := by
        have := Int.ediv_le_self b (a := a - 1) (by omega)
        omega
      have e : IntKind.u64.wrap ((a - 1).tdiv b) = (a - 1) / b := by rw [Int.tdiv_eq_ediv_of_nonneg (by omega), IntKind.wrap_u64]; omega
      go_enter Try.func69, Try.ntmps69
      go_wp2
      go_ret
      exact ⟨rfl, rfl⟩
end Go.Proofs.Ytgmdhanbeafagaa
