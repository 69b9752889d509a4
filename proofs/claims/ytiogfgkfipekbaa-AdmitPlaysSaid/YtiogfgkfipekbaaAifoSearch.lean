/-
  The library's search in a row of words in order: how many are less. No condition but that the row is in order.
-/
import Derived.Test.YtiogfgkfipekbaaU64s
import Derived.Test.YtiogfgkfipekbaaAifoMath
namespace Go.Proofs.Ytiogfgkfipekbaa
set_option linter.unusedVariables false
set_option linter.unusedSimpArgs false
open Go.ChangeShapes Go.WideShapes Go.ChangeAt Go.RowKit
attribute [local go_sem] alloc_drewN setCell_drewN

theorem less_end (S : List Int) (hs : S.Pairwise (· ≤ ·)) (x : Int) (h : Nat) (hh : h ≤ S.length) (h1 : ∀ t, t < h → S.getD t 0 < x) (h2 : ∀ t, h ≤ t → t < S.length → x ≤ S.getD t 0) : lessC S x = h := by
  obtain ⟨a1, a2⟩ := lessC_at hs x
  have hle := lessC_le S x
  have e : ∀ t (ht : t < S.length), S.getD t 0 = S[t] := fun t ht => by rw [List.getD_eq_getElem?_getD, List.getElem?_eq_getElem ht]; rfl
  rcases Nat.lt_trichotomy (lessC S x) h with hc | hc | hc
  · have b1 := h1 _ hc
    have b2 := a2 (lessC S x) (by omega) (Nat.le_refl _)
    rw [e _ (by omega)] at b1
    omega
  · exact hc
  · have b1 := a1 h (by omega) hc
    have b2 := h2 h (Nat.le_refl _) (by omega)
    rw [e _ (by omega)] at b2
    omega
end Go.Proofs.Ytiogfgkfipekbaa
