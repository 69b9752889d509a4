/-
  The example of layer 6, walked; and the law of a ring that nobody made: true for any number. No condition.
-/
import Derived.Test.YtdeehklegeeanaaRingI6
import Derived.Test.YtdeehklegeeanaaRingT6
import Derived.Test.YtdeehklegeeanaaRef6
namespace Go.Proofs.Ytdeehklegeeanaa
set_option linter.unusedVariables false
set_option linter.unusedSimpArgs false
open Go.ChangeShapes Go.WideShapes Go.ChangeAt Go.RowKit
attribute [local go_sem] alloc_drewN setCell_drewN

theorem Mv.size_le {w w' : World} {B : Nat} {v v' : Value} (h : Mv w w' B v v') {n : Nat} (hn : n ≤ w.heap.size) : n ≤ w'.heap.size := Nat.le_trans hn h.size
set_option maxRecDepth 100000 in
set_option maxHeartbeats 1000000 in
theorem lives6 (w : World) :
    Calls Try.prog 10 #[] w fun e w' => e = .returned (.bool true) ∧ Below w.heap.size w w' := by
  go_enter Try.func10, Try.ntmps10
  go_wp2_with fail
  refine (new_okT 2 (by omega) (by omega) _).mono ?_
  rintro e w1 ⟨rfl, h1, b1⟩
  have s1 := b1.size
  go_wp2_with fail
  refine (put_anyT h1 (by omega) ⟨#[97]⟩ s1).mono ?_
  rintro e w2 ⟨rfl, v2, p2, f2, h2, c2, m2⟩
  have s2 := m2.size_le s1
  have b2 := m2.below b1 (Nat.le_refl _) (fun j hj => by cases hj) s1
  clear h1 m2
  go_wp2_with fail
  refine (put_anyT h2 (by omega) ⟨#[98]⟩ s2).mono ?_
  rintro e w3 ⟨rfl, v3, p3, f3, h3, c3, m3⟩
  have s3 := m3.size_le s2
  have b3 := m3.below b2 (Nat.le_refl _) (fun j hj => (h2.own.lt j hj).1) s2
  have e3 : (cont ByteArray.empty p3 f3 2).getD 0 ByteArray.empty = ⟨#[97]⟩ := by
    rw [c3, c2]; rfl
  clear h2 m3 c2 c3
  go_wp2_with fail
  refine (put_fullT h3 (by omega) ⟨#[99]⟩).mono ?_
  rintro e w4 ⟨rfl, n4, rfl⟩
  have TK := Lib.hid (take_inT (h3.drewN n4))
  rw [e3] at TK
  clear e3
  go_wp2_with fail
  refine TK.out.mono ?_
  rintro e w5 ⟨rfl, p5, f5, h5, c5, m5⟩
  have s5 := m5.size_le s3
  have b5 := m5.below (below_drewN n4 b3) (Nat.le_refl _) (fun j hj => (h3.own.lt j hj).1) s3
  clear c5 TK h3 m5
  go_wp2_with fail
  refine (put_anyT h5 (by omega) ⟨#[99]⟩ s5).mono ?_
  rintro e w6 ⟨rfl, v6, p6, f6, h6, c6, m6⟩
  have b6 := m6.below b5 (Nat.le_refl _) (fun j hj => (h5.own.lt j hj).1) s5
  clear c6 m6 h5
  go_wp2_with fail
  refine (lenT h6).mono ?_
  rintro e w' ⟨rfl, rfl⟩
  go_wp2
  go_ret
  exact ⟨rfl, b6⟩
end Go.Proofs.Ytdeehklegeeanaa
