/-
  The example of layer 7, walked: true. No condition.
-/
import Derived.Test.YtmkgadndfiiacaaPoolT4
namespace Go.Proofs.Ytmkgadndfiiacaa
set_option linter.unusedVariables false
set_option linter.unusedSimpArgs false
open Go.ChangeShapes Go.WideShapes Go.ChangeAt Go.RowKit
attribute [local go_sem] alloc_drewN setCell_drewN

theorem MvS.size_le {w w' : World} {S S' : Nat → Prop} (h : MvS w w' S S') {n : Nat} (hn : n ≤ w.heap.size) : n ≤ w'.heap.size := Nat.le_trans hn h.size
set_option maxRecDepth 100000 in
set_option maxHeartbeats 1000000 in
theorem lives7 (w : World) :
    Calls Try.prog 55 #[] w fun e w' => e = .returned (.bool true) ∧ Below w.heap.size w w' := by
  go_enter Try.func55, Try.ntmps55
  go_wp2_with fail
  refine (new_okPT 3 1 (by omega) (by omega) (by omega) _).mono ?_
  rintro e w1 ⟨B, rfl, h1, b1⟩
  have s1 := b1.size
  go_wp2_with fail
  refine (take_newPT h1 (by simp) ⟨#[97]⟩ s1).mono ?_
  rintro e w2 ⟨rfl, v2, h2, m2⟩
  have s2 := m2.size_le s1
  have b2 := m2.below b1 h1.from_base s1
  clear h1 m2
  go_wp2_with fail
  refine (take_newPT h2 (by simp) ⟨#[98]⟩ s2).mono ?_
  rintro e w3 ⟨rfl, v3, h3, m3⟩
  have s3 := m3.size_le s2
  have b3 := m3.below b2 h2.from_base s2
  clear h2 m3
  go_wp2_with fail
  refine (give_okPT h3 0 (by simp) rfl rfl (by simp) s3).mono ?_
  rintro e w4 ⟨rfl, v4, h4, m4⟩
  have s4 := m4.size_le s3
  have b4 := m4.below b3 h3.from_base s3
  clear h3 m4
  go_wp2_with fail
  refine (take_freePT (fs := []) (k := 0) h4 ⟨#[99]⟩).mono ?_
  rintro e w5 ⟨rfl, v5, h5, m5⟩
  have b5 := m5.below b4 h4.from_base s4
  clear h4 m5
  go_wp2_with fail
  refine (lenPT h5).mono ?_
  rintro e w' ⟨rfl, n, rfl⟩
  go_wp2
  go_ret
  exact ⟨rfl, below_drewN n b5⟩
end Go.Proofs.Ytmkgadndfiiacaa
