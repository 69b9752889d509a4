/-
  Package mail: boxes that nobody made, of which the law is walked: true. No condition.
-/
import Derived.Test.YtfjhcmihjffknaaMl5
import Derived.Test.YtfjhcmihjffknaaMl6
namespace Go.Proofs.Ytfjhcmihjffknaa
set_option linter.unusedVariables false
set_option linter.unusedSimpArgs false
open Go.ChangeShapes Go.WideShapes Go.ChangeAt Go.RowKit
attribute [local go_sem] alloc_drewN setCell_drewN

set_option maxRecDepth 100000 in
theorem msome_nil (w : World) (n : Int) : Calls Try.prog 17 #[.pointer none, .int .i64 n] w fun e w' => e = .returned (.slice none 0 0) ∧ w = w' := by
  have LN := Lib.hid (mlen_nilI w)
  go_enter Try.func17, Try.ntmps17
  go_wp2_with fail
  refine LN.out.mono ?_
  rintro e w1 ⟨rfl, rfl⟩
  go_wp2
  all_goals
    refine wp_loop_rounds 1 ?_
    rw [rounds_succ]
    try (have hn0 : ¬ (0 : Int) < n := by omega)
    go_wp2
    go_ret
    exact ⟨rfl, rfl⟩
set_option maxRecDepth 100000 in
theorem mfirst_nil2 (w : World) (g : Nat) (c0 : w.cell? ⟨g, 0, none⟩ = some (.pointer none)) (c1 : w.cell? ⟨g, 1, none⟩ = some (.pointer none)) : Calls Try.prog 24 #[.slice (some ⟨g, 0, none⟩) 2 2] w fun e w' => e = .returned (.tuple #[.int .i64 0, .int .i64 0, .bool false]) ∧ w = w' := by
  have TK := Lib.hid (mtake_nilI w)
  go_enter Try.func24, Try.ntmps24
  go_wp2
  refine wp_loop_rounds 3 ?_
  rw [rounds_succ]
  go_wp2_with fail
  refine TK.out.mono ?_
  rintro e w1 ⟨rfl, rfl⟩
  go_wp2
  rw [rounds_succ]
  go_wp2_with fail
  refine TK.out.mono ?_
  rintro e w1 ⟨rfl, rfl⟩
  go_wp2
  rw [rounds_succ]
  go_wp2
  go_ret3
  exact ⟨rfl, rfl⟩
set_option maxRecDepth 100000 in
set_option maxHeartbeats 2000000 in
theorem walk_mailNobody (n : Int) (n0 : -9223372036854775808 ≤ n) (n1 : n ≤ 9223372036854775807) (w : World) : Calls Try.prog 6 #[.int .i64 n] w fun e w' => e = .returned (.bool true) ∧ Below w.heap.size w w' := by
  have TK := Lib.hid (mtake_nilI w)
  have B1 := Lib.hid ((Below.refl _ w).alloc (Nat.le_refl _) (.cells #[.pointer none, .pointer none] 23))
  obtain ⟨w1, hw1⟩ : ∃ v, w.alloc (.cells #[.pointer none, .pointer none] 23) = v := ⟨_, rfl⟩
  have hb1 := heap_alloc_new w (.cells #[.pointer none, .pointer none] 23)
  have FS := mfirst_nil2 w1 w.heap.size (by rw [← hw1]; exact cell_of_row _ _ 0 _ _ (0, 0) hb1) (by rw [← hw1]; exact cell_of_row _ _ 1 _ _ (0, 0) hb1)
  rw [← hw1] at FS
  have FS := Lib.hid FS
  clear hb1 hw1
  go_enter Try.func6, Try.ntmps6
  go_wp2_with fail
  refine TK.out.mono ?_
  rintro e w2 ⟨rfl, rfl⟩
  go_wp2_with fail
  refine FS.out.mono ?_
  rintro e w2 ⟨rfl, rfl⟩
  go_wp2_with fail
  refine (msend_nilI _ n).mono ?_
  rintro e w3 ⟨rfl, b3⟩
  have B3 := Lib.hid (B1.out.trans (b3.mono B1.out.size))
  clear b3 B1 FS TK
  go_wp2_with fail
  refine (msome_nil _ n).mono ?_
  rintro e w4 ⟨rfl, rfl⟩
  go_wp2_with fail
  refine (mshut_nilI _).mono ?_
  rintro e w4 ⟨rfl, rfl⟩
  go_wp2_with fail
  refine (mopen_nilI _).mono ?_
  rintro e w4 ⟨rfl, rfl⟩
  go_wp2_with fail
  refine (mlen_nilI _).mono ?_
  rintro e w4 ⟨rfl, rfl⟩
  go_wp2_with fail
  refine (lives35 _).mono ?_
  rintro e w5 ⟨rfl, b5⟩
  have B5 := Lib.hid (B3.out.trans (b5.mono B3.out.size))
  clear b5 B3
  go_wp2
  go_ret
  exact ⟨rfl, B5.out⟩
end Go.Proofs.Ytfjhcmihjffknaa
