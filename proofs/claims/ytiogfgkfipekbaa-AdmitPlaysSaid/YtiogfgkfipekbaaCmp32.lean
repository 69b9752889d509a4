/-
  Package cmp for this seat: Compare of two words of 32 bits. No condition.
-/
import Derived.Test.YtiogfgkfipekbaaRows
import Derived.Test.YtiogfgkfipekbaaBase
import Derived.Outline
namespace Go.Proofs.Ytiogfgkfipekbaa
set_option linter.unusedVariables false
set_option linter.unusedSimpArgs false
open Go.ChangeShapes Go.WideShapes Go.ChangeAt Go.RowKit
attribute [local go_sem] alloc_drewN setCell_drewN

def cmp32 (a b : Int) : Int := if a < b then -1 else if b < a then 1 else 0
theorem nan_32 (a : Int) (w : World) :
    Calls Try.prog 127 #[.int .u32 a] w fun e w' => e = .returned (.bool false) ∧ w' = w := by
  go_enter Try.func127, Try.ntmps127
  go_wp2
  go_ret
  exact ⟨by simp, rfl⟩
theorem compare_u32 (a b : Int) (w : World) :
    Calls Try.prog 119 #[.int .u32 a, .int .u32 b] w fun e w' => e = .returned (.int .i64 (cmp32 a b)) ∧ w' = w := by
  have NN := Lib.hid (fun a w => nan_32 a w)
  unfold cmp32
  by_cases h : a < b
  · rw [if_pos h]
    go_enter Try.func119, Try.ntmps119
    go_wp2_with (go_at_call 127; refine (NN.out _ _).mono ?_; rintro e w' ⟨rfl, rfl⟩)
    go_ret
    exact ⟨rfl, rfl⟩
  · rw [if_neg h]
    by_cases h2 : b < a
    · rw [if_pos h2]
      go_enter Try.func119, Try.ntmps119
      go_wp2_with (go_at_call 127; refine (NN.out _ _).mono ?_; rintro e w' ⟨rfl, rfl⟩)
      go_ret
      exact ⟨rfl, rfl⟩
    · rw [if_neg h2]
      go_enter Try.func119, Try.ntmps119
      go_wp2_with (go_at_call 127; refine (NN.out _ _).mono ?_; rintro e w' ⟨rfl, rfl⟩)
      go_ret
      exact ⟨rfl, rfl⟩
end Go.Proofs.Ytiogfgkfipekbaa
