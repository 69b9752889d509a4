/-
  The law on which colour is no better: true for any meters and packet. No condition.
-/
import Derived.Test.YtgmdhanbeafagaaMt2d
import Derived.Test.YtgmdhanbeafagaaMt3
import Derived.Deep.DeepCutAuto
namespace Go.Proofs.Ytgmdhanbeafagaa
set_option linter.unusedVariables false
set_option linter.unusedSimpArgs false
open Go.ChangeShapes Go.WideShapes Go.ChangeAt Go.RowKit
attribute [local go_sem] alloc_drewN setCell_drewN

theorem blk_drewM {w : World} {k n : Nat} {x : Option Obj} (h : w.heap[k]? = x) : (w.drewN n).heap[k]? = x := h
/-- The least colour. -/
def lst21 (h : Int) : Int := if h < 1 ∨ 3 < h then 1 else h
theorem lst_any (h : Int) : lst21 h ≤ 3 ∧ (h ≠ 3 → lst21 h ≤ 2) ∧ (h ≠ 3 → h ≠ 2 → lst21 h ≤ 1) := by
  unfold lst21
  split
  · exact ⟨by omega, by omega, by omega⟩
  · exact ⟨by omega, by omega, by omega⟩
theorem mo_worse (m : MO) (k h : Int) : lst21 h ≤ (m.col k h).2 ∧ (m.col k h).2 ≤ 3 ∧ (m.ok → (m.col k h).2 = 3 → (m.col k h).1 = m) := by
  obtain ⟨l1, l2, l3⟩ := lst_any h
  unfold MO.col
  by_cases hk : m.ok
  · rw [if_pos hk]
    by_cases h3 : h = 3
    · rw [if_pos h3]; exact ⟨l1, Int.le_refl _, fun _ _ => rfl⟩
    · rw [if_neg h3]
      by_cases h2 : h ≠ 2 ∧ k ≤ m.a
      · rw [if_pos h2]; exact ⟨l3 h3 h2.1, by show (1 : Int) ≤ 3; decide, fun _ h => absurd (show (1 : Int) = 3 from h) (by decide)⟩
      · rw [if_neg h2]
        by_cases h1 : k ≤ m.b
        · rw [if_pos h1]; exact ⟨l2 h3, by show (2 : Int) ≤ 3; decide, fun _ h => absurd (show (2 : Int) = 3 from h) (by decide)⟩
        · rw [if_neg h1]; exact ⟨l1, Int.le_refl _, fun _ _ => rfl⟩
  · rw [if_neg hk]; exact ⟨l1, Int.le_refl _, fun h => absurd h hk⟩
theorem mt_worse (m : MT) (k h : Int) : lst21 h ≤ (m.col k h).2 ∧ (m.col k h).2 ≤ 3 ∧ (m.ok → (m.col k h).2 = 3 → (m.col k h).1 = m) := by
  obtain ⟨l1, l2, l3⟩ := lst_any h
  unfold MT.col
  by_cases hk : m.ok
  · rw [if_pos hk]
    by_cases h3 : h = 3 ∨ m.b < k
    · rw [if_pos h3]; exact ⟨l1, Int.le_refl _, fun _ _ => rfl⟩
    · rw [if_neg h3]
      have n3 : h ≠ 3 := fun x => h3 (Or.inl x)
      by_cases h2 : h = 2 ∨ m.a < k
      · rw [if_pos h2]; exact ⟨l2 n3, by show (2 : Int) ≤ 3; decide, fun _ h => absurd (show (2 : Int) = 3 from h) (by decide)⟩
      · rw [if_neg h2]; exact ⟨l3 n3 (fun x => h2 (Or.inl x)), by show (1 : Int) ≤ 3; decide, fun _ h => absurd (show (1 : Int) = 3 from h) (by decide)⟩
  · rw [if_neg hk]; exact ⟨l1, Int.le_refl _, fun h => absurd h hk⟩
end Go.Proofs.Ytgmdhanbeafagaa
