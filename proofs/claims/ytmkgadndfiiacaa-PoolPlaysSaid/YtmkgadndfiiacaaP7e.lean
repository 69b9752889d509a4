/-
  The law of a pool beside the document's answer, walked: true for any size and any acts. No condition.
-/
import Derived.Test.YtmkgadndfiiacaaP7d
import Derived.Test.YtmkgadndfiiacaaLives7
import Derived.Test.YtmkgadndfiiacaaOpen3
import Derived.Deep.CutBlock
import Derived.Deep.DeepCutAuto
namespace Go.Proofs.Ytmkgadndfiiacaa
set_option linter.unusedVariables false
set_option linter.unusedSimpArgs false
open Go.ChangeShapes Go.WideShapes Go.ChangeAt Go.RowKit
attribute [local go_sem] alloc_drewN setCell_drewN

set_option maxRecDepth 100000 in
set_option maxHeartbeats 4000000 in
theorem plays7_long (most queues : Int) (a : Option Addr) (n cc : Nat) (h : (1000 < queues ∧ queues ≤ 262144) ∨ ((queues ≤ 1000 ∨ 262144 < queues) ∧ 150 < n)) (w : World) :
    Calls Try.prog 8 #[.int .i64 most, .int .i64 queues, .slice a n cc] w fun e w' => e = .returned (.bool true) ∧ Below w.heap.size w w' := by
  have LV := Lib.hid (fun W => lives7 W)
  have h' : (1000 < queues ∧ queues ≤ 262144) ∨ (¬ 1000 < queues ∧ (150 : Int) < n) ∨ (1000 < queues ∧ ¬ queues ≤ 262144 ∧ (150 : Int) < n) := by omega
  clear h
  rcases h' with ⟨h1, h2⟩ | ⟨h1, h3⟩ | ⟨h1, h2, h3⟩
  all_goals
    go_enter Try.func8, Try.ntmps8
    go_wp2_with fail
    refine (LV.out _).mono ?_
    rintro e w9 ⟨rfl, b9⟩
    go_wp2
    go_ret
    exact ⟨rfl, b9⟩
set_option maxRecDepth 100000 in
set_option maxHeartbeats 4000000 in
theorem plays7_not (most queues : Int) (a : Option Addr) (n cc : Nat) (h : most < 1 ∨ 4096 < most ∨ queues < 0 ∨ 262144 < queues) (hq : queues ≤ 1000 ∨ 262144 < queues) (hn : n ≤ 150) (w : World) :
    Calls Try.prog 8 #[.int .i64 most, .int .i64 queues, .slice a n cc] w fun e w' => e = .returned (.bool true) ∧ Below w.heap.size w w' := by
  have LV := Lib.hid (fun W => lives7 W)
  have NW := Lib.hid (new_noP most queues h w)
  have MY := Lib.hid (rmay7_no most queues h w)
  have h3 : ¬ (150 : Int) < n := by omega
  have h' : (¬ 1000 < queues) ∨ (1000 < queues ∧ ¬ queues ≤ 262144) := by omega
  clear h hq
  rcases h' with h1 | ⟨h1, h2⟩
  all_goals
    go_enter Try.func8, Try.ntmps8
    go_wp2_with fail
    refine NW.out.mono ?_
    rintro e w2 ⟨rfl, rfl⟩
    go_wp2_with fail
    refine MY.out.mono ?_
    rintro e w3 ⟨rfl, rfl⟩
    go_wp2_with fail
    refine (LV.out _).mono ?_
    rintro e w9 ⟨rfl, b9⟩
    go_wp2
    go_ret
    exact ⟨rfl, b9⟩
end Go.Proofs.Ytmkgadndfiiacaa
