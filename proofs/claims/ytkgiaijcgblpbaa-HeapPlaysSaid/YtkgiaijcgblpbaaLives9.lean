/-
  The example of layer 9, walked: true. No condition.
-/
import Derived.Test.YtkgiaijcgblpbaaHeapT7
import Derived.Test.YtkgiaijcgblpbaaStr
namespace Go.Proofs.Ytkgiaijcgblpbaa
set_option linter.unusedVariables false
set_option linter.unusedSimpArgs false
open Go.ChangeShapes Go.WideShapes Go.ChangeAt Go.RowKit
attribute [local go_sem] alloc_drewN setCell_drewN

set_option maxRecDepth 100000 in
set_option maxHeartbeats 1000000 in
theorem lives9 (w : World) :
    Calls Try.prog 29 #[] w fun e w' => e = .returned (.bool true) ∧ Below w.heap.size w w' := by
  have e1 : ((⟨#[98]⟩ : ByteArray) ++ ⟨#[97]⟩ ++ ⟨#[99]⟩).toList = [98, 97, 99] := by first | kernel_rfl | rfl | decide +kernel
  go_enter Try.func29, Try.ntmps29
  go_wp2_with fail
  refine (newBT 3 (by omega) (by omega) _).mono ?_
  rintro e w1 ⟨rfl, h1⟩
  go_wp2_with fail
  refine (pushB_inT h1 (by simp) (by omega) 5 ⟨#[97]⟩).mono ?_
  rintro e w2 ⟨rfl, v2, h2, -⟩
  clear h1
  have h2 : HeapBT w w2 w.heap.size 3 1 v2 [⟨5, ⟨#[97]⟩, 0⟩] := h2
  go_wp2_with fail
  refine (pushB_inT h2 (by simp) (by omega) 3 ⟨#[98]⟩).mono ?_
  rintro e w3 ⟨rfl, v3, h3, -⟩
  clear h2
  have h3 : HeapBT w w3 w.heap.size 3 2 v3 [⟨3, ⟨#[98]⟩, 1⟩, ⟨5, ⟨#[97]⟩, 0⟩] := h3
  go_wp2_with fail
  refine (pushB_inT h3 (by simp) (by omega) 5 ⟨#[99]⟩).mono ?_
  rintro e w4 ⟨rfl, v4, h4, -⟩
  clear h3
  have h4 : HeapBT w w4 w.heap.size 3 3 v4 [⟨3, ⟨#[98]⟩, 1⟩, ⟨5, ⟨#[97]⟩, 0⟩, ⟨5, ⟨#[99]⟩, 2⟩] := h4
  go_wp2_with fail
  refine (pushB_outT h4 (by simp) (by omega) 1 ⟨#[100]⟩).mono ?_
  rintro e w5 ⟨rfl, h5, -⟩
  clear h4
  go_wp2_with fail
  refine (popB_inT h5).mono ?_
  rintro e w6 ⟨rfl, v6, h6, -⟩
  clear h5
  go_wp2_with fail
  refine (popB_inT h6).mono ?_
  rintro e w7 ⟨rfl, v7, h7, -⟩
  clear h6
  go_wp2_with fail
  refine (popB_inT h7).mono ?_
  rintro e w8 ⟨rfl, v8, h8, -⟩
  clear h7
  go_wp2_with fail
  refine (lenHT h8.g).mono ?_
  rintro e w' ⟨rfl, rfl⟩
  have hb := h8.b
  clear h8
  go_wp2
  go_ret
  exact ⟨rfl, hb⟩
end Go.Proofs.Ytkgiaijcgblpbaa
