/-
  The closure that layer 15's law hands to Each, walked, where all that it compares is the same. No condition.
-/
import Derived.Test.YtcieggckmpabnaaFlowEc
import Derived.RangeFuncBox
namespace Go.Proofs.Ytcieggckmpabnaa
set_option linter.unusedVariables false
set_option linter.unusedSimpArgs false
open Go.ChangeShapes Go.WideShapes Go.ChangeAt Go.RowKit
attribute [local go_sem] alloc_drewN setCell_drewN

set_option maxRecDepth 100000 in
set_option maxHeartbeats 1000000 in
theorem tells_fn {V : World} (ok at' l i : Nat) (hne : at' ≠ ok) (k n : Nat) (hk : k < n) (hn : n ≤ 5000) (id x : Int) (g gi : Nat) (c ci : Nat)
    (h0 : Boxed V ok 4 (.bool true)) (h1 : Boxed V at' 3 (.int .i64 k)) (h2 : Boxed V l 28 (.slice (some ⟨g, 0, none⟩) n c)) (h3 : Boxed V i 147 (.slice (some ⟨gi, 0, none⟩) n ci))
    (e0 : V.cell? ⟨g, k * 2, none⟩ = some (.int .u32 id)) (e1 : V.cell? ⟨g, k * 2 + 1, none⟩ = some (.int .i64 x)) (e2 : V.cell? ⟨gi, k, none⟩ = some (.int .u32 id)) :
    Calls Try.prog 79 #[.int .u32 id, .int .i64 x, .pointer (some ⟨ok, 0, none⟩), .pointer (some ⟨at', 0, none⟩), .pointer (some ⟨l, 0, none⟩), .pointer (some ⟨i, 0, none⟩)] V fun e V' => e = .returned (.bool true) ∧ V' = (V.setCell ⟨ok, 0, none⟩ (.bool true)).setCell ⟨at', 0, none⟩ (.int .i64 (k + 1 : Nat)) := by
  have q0 := h0.cell; have q1 := h1.cell; have q2 := h2.cell; have q3 := h3.cell
  have f0 := h0.frozen
  obtain ⟨V1, hV1⟩ : ∃ V1, V.setCell ⟨ok, 0, none⟩ (.bool true) = V1 := ⟨_, rfl⟩
  have s0 : V1.cell? ⟨ok, 0, none⟩ = some (.bool true) := by rw [← hV1]; exact (h0.set (.bool true)).cell
  have hb1 : Boxed V1 at' 3 (.int .i64 k) := by rw [← hV1]; exact h1.kept (grownBy_setCell' V ok _) (fun e => hne (by injection e))
  have s1 := hb1.cell
  have f1 := hb1.frozen
  obtain ⟨V2, hV2⟩ : ∃ V2, V1.setCell ⟨at', 0, none⟩ (.int .i64 (k + 1 : Nat)) = V2 := ⟨_, rfl⟩
  have t0 : V2.cell? ⟨ok, 0, none⟩ = some (.bool true) := by
    rw [← hV2]
    have hbo : Boxed V1 ok 4 (.bool true) := by rw [← hV1]; exact h0.set (.bool true)
    exact (hbo.kept (grownBy_setCell' V1 at' _) (fun e => hne (by injection e with e; exact e.symm))).cell
  rw [hV1, hV2]
  have b0 : (0 : Int) ≤ k := by omega
  have b1 : (k : Int) < n := by omega
  have hV2' : V1.setCell ⟨at', 0, none⟩ (.int .i64 ((k : Int) + 1)) = V2 := hV2
  clear h0 h1 h2 h3 hb1 hV2
  go_enter Try.func79, Try.ntmps79
  go_wp2
  go_ret
  exact ⟨rfl, rfl⟩
end Go.Proofs.Ytcieggckmpabnaa
