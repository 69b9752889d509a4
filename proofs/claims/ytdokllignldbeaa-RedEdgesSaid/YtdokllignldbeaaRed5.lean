/-
  The example of layer 18, walked: true. No condition.
-/
import Derived.Test.YtdokllignldbeaaRed4
namespace Go.Proofs.Ytdokllignldbeaa
set_option linter.unusedVariables false
set_option linter.unusedSimpArgs false
open Go.ChangeShapes Go.WideShapes Go.ChangeAt Go.RowKit
attribute [local go_sem] alloc_drewN setCell_drewN

set_option maxRecDepth 100000 in
theorem lives18 (w : World) : Calls Try.prog 33 #[] w fun e w' => e = .returned (.bool true) ∧ Below w.heap.size w w' := by
  have hr : Row1 .u64 (w.alloc (.cells #[.int .u64 15, .int .u64 15, .int .u64 15, .int .u64 15] 22)) (some ⟨w.heap.size, 0, none⟩) 4 [15, 15, 15, 15] := by
    refine ⟨rfl, by unfold maxLen; omega, by decide, fun _ => ⟨w.heap.size, 0, rfl, by simp, fun i hi => ?_⟩⟩
    match i, hi with
    | 0, _ => simp [go_sem]
    | 1, _ => simp [go_sem]
    | 2, _ => simp [go_sem]
    | 3, _ => simp [go_sem]
  have PL := Lib.hid (red_play 10 20 65536 0 (by decide) (by decide) (by decide) (by decide) (by decide) (by decide) _ 4 4 [15, 15, 15, 15] _ hr (by decide))
  have q0 : rsb 10 20 65536 0 [15, 15, 15, 15] 0 = false := by decide
  have q1 : rsb 10 20 65536 0 [15, 15, 15, 15] 1 = true := by decide
  have q2 : rsb 10 20 65536 0 [15, 15, 15, 15] 2 = false := by decide
  have q3 : rsb 10 20 65536 0 [15, 15, 15, 15] 3 = true := by decide
  have Q := Lib.hid (And.intro q0 (And.intro q1 (And.intro q2 q3)))
  clear hr q0 q1 q2 q3
  go_enter Try.func33, Try.ntmps33
  go_wp2_with fail
  refine PL.out.mono ?_
  rintro e w2 ⟨g, p, rfl, hg, hB, hp, b2⟩
  obtain ⟨q0, q1, q2, q3⟩ := Q.out
  have c0 := (hB.at 0 (by decide)).1
  have c1 := (hB.at 1 (by decide)).1
  have c2 := (hB.at 2 (by decide)).1
  have c3 := (hB.at 3 (by decide)).1
  rw [hp 0 (by decide), q0] at c0
  rw [hp 1 (by decide), q1] at c1
  rw [hp 2 (by decide), q2] at c2
  rw [hp 3 (by decide), q3] at c3
  have FIN := Lib.hid (show Below w.heap.size w w2 from (below_cells w _).trans (b2.mono (by simp)))
  clear hB hp q0 q1 q2 q3 b2 hg
  go_wp2
  go_ret
  exact ⟨rfl, FIN.out⟩
end Go.Proofs.Ytdokllignldbeaa
