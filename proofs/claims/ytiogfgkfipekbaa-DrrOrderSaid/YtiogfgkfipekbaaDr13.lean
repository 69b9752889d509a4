/-
  The law of layer 29 on the order of items: true for any quanta and acts. No condition.
-/
import Derived.Test.YtiogfgkfipekbaaDr12
namespace Go.Proofs.Ytiogfgkfipekbaa
set_option linter.unusedVariables false
set_option linter.unusedSimpArgs false
open Go.ChangeShapes Go.WideShapes Go.ChangeAt Go.RowKit
attribute [local go_sem] alloc_drewN setCell_drewN

set_option maxRecDepth 100000 in
theorem order29_out (a : Option Addr) (k c : Nat) (a2 : Option Addr) (n2 c2 : Nat) (w : World) (h : k = 0 ∨ 20 < k ∨ 300 < n2) (hm : k ≤ maxLen) (hm2 : n2 ≤ maxLen) :
    Calls Try.prog 7 #[.slice a k c, .slice a2 n2 c2] w fun e w' => e = .returned (.bool true) ∧ Below w.heap.size w w' := by
  unfold maxLen at hm hm2
  by_cases h0 : k = 0
  · subst h0
    go_enter Try.func7, Try.ntmps7
    go_wp2_with fail
    refine (lives29 _).mono ?_
    rintro e w6 ⟨rfl, b6⟩
    have B6 := Lib.hid b6
    clear b6
    go_wp2
    go_ret
    exact ⟨rfl, B6.out⟩
  have h0b : ((k : Int) == 0) = false := by rw [beq_eq_false_iff_ne]; omega
  have h0c : ¬ (k : Int) = 0 := by omega
  by_cases h1 : 20 < k
  · have h1b : (20 : Int) < k := by omega
    go_enter Try.func7, Try.ntmps7
    go_wp2_with fail
    refine (lives29 _).mono ?_
    rintro e w6 ⟨rfl, b6⟩
    have B6 := Lib.hid b6
    clear b6
    go_wp2
    go_ret
    exact ⟨rfl, B6.out⟩
  · have h1b : ¬ (20 : Int) < k := by omega
    have h2b : (300 : Int) < n2 := by omega
    clear h
    go_enter Try.func7, Try.ntmps7
    go_wp2_with fail
    refine (lives29 _).mono ?_
    rintro e w6 ⟨rfl, b6⟩
    have B6 := Lib.hid b6
    clear b6
    go_wp2
    go_ret
    exact ⟨rfl, B6.out⟩
theorem walk_drrOrder (a : Option Addr) (k c : Nat) (zs : List Int) {w : World} (hr : Row1 .u16 w a k zs) (hc : k ≤ c) (a2 : Option Addr) (n2 c2 : Nat) (as_ : List Act29) (ha : RowA29 w a2 n2 as_) (hc2 : n2 ≤ c2) :
    Calls Try.prog 7 #[.slice a k c, .slice a2 n2 c2] w fun e w' => e = .returned (.bool true) ∧ Below w.heap.size w w' := by
  by_cases h : k = 0 ∨ 20 < k ∨ 300 < n2
  · exact order29_out a k c a2 n2 c2 w h hr.2.1 ha.2.1
  · exact order29_at a k c zs a2 n2 c2 as_ w hr ha (by omega) (by omega) (by omega)
end Go.Proofs.Ytiogfgkfipekbaa
