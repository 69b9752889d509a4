/-
  The law of a pool beside the document's answer: true for any size and any acts. No condition.
-/
import Derived.Test.YtmkgadndfiiacaaP7g
namespace Go.Proofs.Ytmkgadndfiiacaa
set_option linter.unusedVariables false
set_option linter.unusedSimpArgs false
open Go.ChangeShapes Go.WideShapes Go.ChangeAt Go.RowKit

theorem walk_poolPlays (most : Int) (m0 : -9223372036854775808 ≤ most) (m1 : most ≤ 9223372036854775807) (queues : Int) (q0 : -9223372036854775808 ≤ queues) (q1 : queues ≤ 9223372036854775807) (a : Option Addr) (n cc : Nat) (zs : List Act7) {w : World} (hr : RowA7 w a n zs) (hcap : n ≤ cc) :
    Calls Try.prog 8 #[.int .i64 most, .int .i64 queues, .slice a n cc] w fun e w' => e = .returned (.bool true) ∧ Below w.heap.size w w' := by
  by_cases h1 : (1000 < queues ∧ queues ≤ 262144) ∨ ((queues ≤ 1000 ∨ 262144 < queues) ∧ 150 < n)
  · exact plays7_long most queues a n cc h1 w
  by_cases h2 : most < 1 ∨ 4096 < most ∨ queues < 0 ∨ 262144 < queues
  · exact plays7_not most queues a n cc h2 (by omega) (by omega) w
  obtain ⟨m, rfl⟩ : ∃ m : Nat, queues = m := ⟨queues.toNat, by omega⟩
  exact plays7_at most (by omega) (by omega) m (by omega) a n cc zs hr (by omega)
end Go.Proofs.Ytmkgadndfiiacaa
