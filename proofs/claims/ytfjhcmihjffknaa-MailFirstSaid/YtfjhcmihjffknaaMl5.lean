/-
  The example of layer 35, walked: true. No condition.
-/
import Derived.Test.YtfjhcmihjffknaaMailT4
import Derived.Test.YtfjhcmihjffknaaStr
namespace Go.Proofs.Ytfjhcmihjffknaa
set_option linter.unusedVariables false
set_option linter.unusedSimpArgs false
open Go.ChangeShapes Go.WideShapes Go.ChangeAt Go.RowKit
attribute [local go_sem] alloc_drewN setCell_drewN

set_option maxRecDepth 100000 in
set_option maxHeartbeats 1000000 in
theorem lives35 (w : World) : Calls Try.prog 13 #[] w fun e w' => e = .returned (.bool true) ∧ Below w.heap.size w w' := by
  have NW := Lib.hid (gnewT w 1 (by decide) (by decide))
  go_enter Try.func13, Try.ntmps13
  go_wp2_with fail
  refine NW.out.mono ?_
  rintro e w1 ⟨B, rfl, ⟨In1, h1⟩, b1⟩
  have S1 := gsendT h1 ⟨#[97]⟩
  simp only [List.length_nil, Nat.lt_one_iff, and_self, if_true, List.nil_append, decide_true, Bool.not_false, Bool.and_true] at S1
  have S1 := Lib.hid S1
  have G1 := Lib.hid h1
  have D1 := Lib.hid b1
  clear h1 b1 NW
  go_wp2_with fail
  refine S1.out.mono ?_
  rintro e w2 ⟨rfl, In2, h2, m2⟩
  have S2 := gsendT h2 ⟨#[98]⟩
  simp only [List.length_cons, List.length_nil, Nat.zero_add, Nat.lt_irrefl, and_false, if_false, decide_false, Bool.and_false] at S2
  have S2 := Lib.hid S2
  have D2 := Lib.hid (G1.out.bel m2 D1.out)
  have G2 := Lib.hid h2
  clear h2 m2 S1 G1 D1
  go_wp2_with fail
  refine S2.out.mono ?_
  rintro e w3 ⟨rfl, In3, h3, m3⟩
  have S3 := Lib.hid (gshutT h3)
  have D3 := Lib.hid (G2.out.bel m3 D2.out)
  have G3 := Lib.hid h3
  clear h3 m3 S2 G2 D2
  go_wp2_with fail
  refine S3.out.mono ?_
  rintro e w4 ⟨rfl, h4, m4⟩
  have S4 := Lib.hid (gshutT h4)
  have D4 := Lib.hid (G3.out.bel m4 D3.out)
  have G4 := Lib.hid h4
  clear h4 m4 S3 G3 D3
  go_wp2_with fail
  refine S4.out.mono ?_
  rintro e w5 ⟨rfl, h5, m5⟩
  have S5 := Lib.hid (gtakeT h5)
  have D5 := Lib.hid (G4.out.bel m5 D4.out)
  have G5 := Lib.hid h5
  clear h5 m5 S4 G4 D4
  go_wp2_with fail
  refine S5.out.mono ?_
  rintro e w6 ⟨rfl, In6, h6, m6, -⟩
  have S6 := gsendT h6 ⟨#[99]⟩
  simp only [Bool.not_true, Bool.false_and] at S6
  have S6 := Lib.hid S6
  have D6 := Lib.hid (G5.out.bel m6 D5.out)
  have G6 := Lib.hid h6
  clear h6 m6 S5 G5 D5
  go_wp2_with fail
  refine S6.out.mono ?_
  rintro e w7 ⟨rfl, In7, h7, m7⟩
  have S7 := Lib.hid (gopenT h7)
  have D7 := Lib.hid (G6.out.bel m7 D6.out)
  clear h7 m7 S6 G6 D6
  go_wp2_with fail
  refine S7.out.mono ?_
  rintro e w8 ⟨rfl, rfl⟩
  go_wp2
  go_ret
  exact ⟨rfl, D7.out⟩
end Go.Proofs.Ytfjhcmihjffknaa
