/-
  Two prefixes compared. No condition.
-/
import Derived.Test.YtfjhcmihjffknaaTr1
namespace Go.Proofs.Ytfjhcmihjffknaa
set_option linter.unusedVariables false
set_option linter.unusedSimpArgs false
open Go.ChangeShapes Go.WideShapes Go.ChangeAt Go.RowKit
attribute [local go_sem] alloc_drewN setCell_drewN
theorem prefix_eq (b m a n : Int) (W : World) : Sem.run Try.prog (binOp .eql 70 (.agg #[.int .u32 b, .int .i64 m]) (.agg #[.int .u32 a, .int .i64 n])) W = .ok (.bool (b == a && m == n)) W := by
  have hm : Try.prog.eqGuardType Try.prog.depth 70 = false := by kernel_rfl
  by_cases h1 : b = a
  · by_cases h2 : m = n
    · subst h1 h2
      go_simp
    · have q1 : (b == a) = true := by simpa using h1
      have q2 : (m == n) = false := by simpa using h2
      rw [q1, q2]
      go_simp
  · have q1 : (b == a) = false := by simpa using h1
    rw [q1]
    go_simp
end Go.Proofs.Ytfjhcmihjffknaa
