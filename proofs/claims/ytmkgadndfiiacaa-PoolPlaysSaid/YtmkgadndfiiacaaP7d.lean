/-
  Layer 7: the answer's May; a pool and the answer as both are made. No condition.
-/
import Derived.Test.YtmkgadndfiiacaaP7c
namespace Go.Proofs.Ytmkgadndfiiacaa
set_option linter.unusedVariables false
set_option linter.unusedSimpArgs false
open Go.ChangeShapes Go.WideShapes Go.ChangeAt Go.RowKit

theorem rmay7_yes (most q : Int) (h1 : 1 ≤ most) (h2 : most ≤ 4096) (h3 : 0 ≤ q) (h4 : q ≤ 262144) (w : World) :
    Calls Try.prog 57 #[.int .i64 most, .int .i64 q] w fun e w' => e = .returned (.bool true) ∧ w' = w := by
  go_enter Try.func57, Try.ntmps57
  go_wp2
  go_ret
  exact ⟨rfl, rfl⟩
theorem rmay7_no (most q : Int) (h : most < 1 ∨ 4096 < most ∨ q < 0 ∨ 262144 < q) (w : World) :
    Calls Try.prog 57 #[.int .i64 most, .int .i64 q] w fun e w' => e = .returned (.bool false) ∧ w' = w := by
  have h' : (¬ 1 ≤ most) ∨ (1 ≤ most ∧ ¬ most ≤ 4096) ∨ (1 ≤ most ∧ most ≤ 4096 ∧ ¬ 0 ≤ q) ∨ (1 ≤ most ∧ most ≤ 4096 ∧ 0 ≤ q ∧ ¬ q ≤ 262144) := by omega
  clear h
  rcases h' with h | ⟨h1, h2⟩ | ⟨h1, h2, h3⟩ | ⟨h1, h2, h3, h4⟩
  all_goals
    go_enter Try.func57, Try.ntmps57
    go_wp2
    go_ret
    exact ⟨rfl, rfl⟩
theorem start7 {w w1 : World} {B : Nat} {most : Int} {m : Nat} {vq : Value} (ht : PoolAtI w1 w.heap.size B most (.slice none 0 0) (.slice none 0 0) vq [] [] (List.replicate m (0, 0, 0))) (hb : Below w.heap.size w w1) :
    Pair7 w.heap.size (w1.alloc (.cells #[.int .i64 most, .int .i64 (m : Int), .slice none 0 0, .slice none 0 0, .slice none 0 0, .int .i64 0] 104)) B w1.heap.size most m := by
  have hba : Below w1.heap.size w1 (w1.alloc (.cells #[.int .i64 most, .int .i64 (m : Int), .slice none 0 0, .slice none 0 0, .slice none 0 0, .int .i64 0] 104)) := (Below.refl _ w1).alloc (Nat.le_refl _) _
  have g := PoolG.start ht
  refine ⟨_, _, _, _, _, _, _, _, _, _, _, _, _, _, ⟨g.below hba, ⟨hb.size, heap_alloc_new _ _, World.ownsRow_nil _ _ _ _, World.ownsRow_nil _ _ _ _, World.ownsRow_nil _ _ _ _⟩, fun j hj hp => ?_⟩, Rl7.start m, by simp, Nat.le_trans hb.size hba.size⟩
  have := (g.mem.inlt hp).2
  rcases hj with rfl | hj | hj | hj
  · omega
  all_goals (simp [Value.ownBlock] at hj)
end Go.Proofs.Ytmkgadndfiiacaa
