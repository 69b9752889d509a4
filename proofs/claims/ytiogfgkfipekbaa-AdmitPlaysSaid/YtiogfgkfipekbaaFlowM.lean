/-
  Numbers that rise: one more, one less. Plain lists. No condition.
-/
import Derived.Test.YtiogfgkfipekbaaFlowC
namespace Go.Proofs.Ytiogfgkfipekbaa
set_option linter.unusedVariables false
set_option linter.unusedSimpArgs false

theorem isF_get {S : List Int} {x : Int} (h : isF S x = true) : lessC S x < S.length ∧ S.getD (lessC S x) 0 = x := by
  unfold isF at h
  rw [Bool.and_eq_true] at h
  exact ⟨of_decide_eq_true h.1, of_decide_eq_true h.2⟩
theorem isF_no {S : List Int} {x : Int} (h : isF S x = false) (hl : lessC S x < S.length) : S.getD (lessC S x) 0 ≠ x := fun e => by
  unfold isF at h
  rw [decide_eq_true hl, decide_eq_true e] at h
  cases h
theorem rise_le {S : List Int} (hs : S.Pairwise (· < ·)) : S.Pairwise (· ≤ ·) := hs.imp (fun {a b} (hab : a < b) => (by omega : a ≤ b))
theorem ins_rise {S : List Int} (hs : S.Pairwise (· < ·)) {x : Int} (h : isF S x = false) : (S.take (lessC S x) ++ x :: S.drop (lessC S x)).Pairwise (· < ·) := by
  obtain ⟨h1, h2⟩ := lessC_at (rise_le hs) x
  have hle := lessC_le S x
  have hlt : ∀ y ∈ S.take (lessC S x), y < x := fun y hy => by
    obtain ⟨j, hj, e⟩ := List.getElem_of_mem hy
    rw [List.length_take] at hj
    rw [List.getElem_take] at e
    rw [← e]
    exact h1 j (by omega) (by omega)
  have hgt : ∀ y ∈ S.drop (lessC S x), x < y := fun y hy => by
    obtain ⟨j, hj, e⟩ := List.getElem_of_mem hy
    rw [List.length_drop] at hj
    rw [List.getElem_drop] at e
    rw [← e]
    have g1 := h2 (lessC S x) (by omega) (Nat.le_refl _)
    have g2 := isF_no h (by omega)
    rw [List.getD_eq_getElem?_getD, List.getElem?_eq_getElem (by omega)] at g2
    have g3 : S[lessC S x] ≠ x := g2
    by_cases hj0 : j = 0
    · subst hj0
      simp only [Nat.add_zero]
      omega
    · have g4 := List.pairwise_iff_getElem.1 hs (lessC S x) (lessC S x + j) (by omega) (by omega) (by omega)
      omega
  refine List.pairwise_append.2 ⟨hs.sublist (List.take_sublist _ _), List.pairwise_cons.2 ⟨hgt, hs.sublist (List.drop_sublist _ _)⟩, fun a ha b hb => ?_⟩
  rcases List.mem_cons.1 hb with rfl | hb
  · exact hlt a ha
  · have := hlt a ha
    have := hgt b hb
    omega
theorem del_rise {S : List Int} (hs : S.Pairwise (· < ·)) (i : Nat) : (S.take i ++ S.drop (i + 1)).Pairwise (· < ·) := by
  rw [← List.eraseIdx_eq_take_drop_succ]
  exact hs.sublist (List.eraseIdx_sublist _ _)
end Go.Proofs.Ytiogfgkfipekbaa
