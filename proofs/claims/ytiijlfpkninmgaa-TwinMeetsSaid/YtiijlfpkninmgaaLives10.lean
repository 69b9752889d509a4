/-
  The example of layer 10, walked: true. No condition.
-/
import Derived.Test.YtiijlfpkninmgaaTwinT8
namespace Go.Proofs.Ytiijlfpkninmgaa
set_option linter.unusedVariables false
set_option linter.unusedSimpArgs false
open Go.ChangeShapes Go.WideShapes Go.ChangeAt Go.RowKit
attribute [local go_sem] alloc_drewN setCell_drewN

set_option maxRecDepth 100000 in
set_option maxHeartbeats 1000000 in
theorem lives10 (w : World) :
    Calls Try.prog 40 #[] w fun e w' => e = .returned (.bool true) ∧ Below w.heap.size w w' := by
  have e1 : (⟨#[97]⟩ : ByteArray).toList = [97] := by first | kernel_rfl | rfl | decide +kernel
  have e2 : (⟨#[100]⟩ : ByteArray).toList = [100] := by first | kernel_rfl | rfl | decide +kernel
  have e3 : (⟨#[99]⟩ : ByteArray).toList = [99] := by first | kernel_rfl | rfl | decide +kernel
  go_enter Try.func40, Try.ntmps40
  go_wp2_with fail
  refine (newWT 2 (by omega) (by omega) w w (Below.refl _ _)).mono ?_
  rintro e w1 ⟨rfl, h1, -⟩
  go_wp2_with fail
  refine (pushXT h1 (by simp) (by omega) 5 ⟨#[97]⟩).mono ?_
  rintro e w2 ⟨rfl, v2, h2, -⟩
  clear h1
  have h2 : TwinBT w w2 w.heap.size w.heap.size 2 1 v2 [⟨5, ⟨#[97]⟩, 0⟩] := h2
  go_wp2_with fail
  refine (pushXT h2 (by simp) (by omega) 3 ⟨#[98]⟩).mono ?_
  rintro e w3 ⟨rfl, v3, h3, -⟩
  clear h2
  have h3 : TwinBT w w3 w.heap.size w.heap.size 2 2 v3 ([⟨3, ⟨#[98]⟩, 1⟩] ++ [⟨5, ⟨#[97]⟩, 0⟩]) := h3
  go_wp2_with fail
  refine (squeeze_outT h3 (by simp) (by omega) 4 ⟨#[99]⟩ (by simp)).mono ?_
  rintro e w4 ⟨rfl, v4, h4, -⟩
  clear h3
  have h4 : TwinBT w w4 w.heap.size w.heap.size 2 3 v4 ([⟨3, ⟨#[98]⟩, 1⟩] ++ [⟨4, ⟨#[99]⟩, 2⟩]) := h4
  go_wp2_with fail
  refine (squeeze_stayT h4 (by simp) 4 ⟨#[100]⟩ (by simp)).mono ?_
  rintro e w5 ⟨rfl, h5, -⟩
  clear h4
  go_wp2_with fail
  refine (maxXT h5).mono ?_
  rintro e w6 ⟨rfl, h6, -⟩
  clear h5
  go_wp2_with fail
  refine (lenWT h6.g).mono ?_
  rintro e w' ⟨rfl, hw⟩
  have hw := hw.symm
  subst hw
  have hb := h6.b
  clear h6
  go_wp2
  go_ret
  exact ⟨rfl, hb⟩
end Go.Proofs.Ytiijlfpkninmgaa
