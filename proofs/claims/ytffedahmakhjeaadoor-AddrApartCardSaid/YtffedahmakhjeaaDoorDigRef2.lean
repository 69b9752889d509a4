/-
  The document's answer for layer 3, further: a number with a unit put and read, texts joined, lists told the same. What lay below the heap's end stands. No condition but that numbers are words and texts fit.
-/
import Derived.Test.YtffedahmakhjeaaDoorDigRef1
import Derived.Deep.QuietTactic
namespace Go.Proofs.YtffedahmakhjeaaDoor
set_option linter.unusedVariables false
set_option linter.unusedSimpArgs false
open Go.ChangeShapes Go.WideShapes Go.ChangeAt Go.RowKit
attribute [-go_sem] run_index_string binOp_string_eql binOp_string_neq run_string_add_if run_slice_string_from_if run_slice_string_to_if
attribute [local go_sem] index_bt add_fits slice_from slice_to eql_str neq_str alloc_drewN setCell_drewN

/-- What a string with a unit reads as. -/
noncomputable def rdu (s : ByteArray) : Int × Int :=
  let u := if s.size = 0 then 1 else uw (bt s ((s.size - 1 : Nat) : Int))
  let t := if 1 < u then s.extract 0 (s.size - 1) else s
  if (rd t).2 ≠ 0 then (0, (rd t).2) else if 18446744073709551615 / u < (rd t).1 then (0, 5) else ((rd t).1 * u, 0)
theorem uw_cases (c : Int) : uw c = 1 ∨ uw c = 1000 ∨ uw c = 1000000 ∨ uw c = 1000000000 := by
  unfold uw; (repeat' split) <;> simp
theorem rd_bd (s : ByteArray) : 0 ≤ (rd s).1 ∧ (rd s).1 ≤ 18446744073709551615 := by
  by_cases h : Formed s
  · by_cases h2 : 18446744073709551615 < nv s s.size
    · rw [rd_over s h h2]; exact ⟨by decide, by decide⟩
    · rw [rd_ok s h h2]; exact ⟨nv_nonneg s s.size h.2.1, by show nv s s.size ≤ _; omega⟩
  · rw [rd_form s h]; exact ⟨by decide, by decide⟩

/-- What is left behind the unit is read, and multiplied. -/
def after (r : Int × Int) (u : Int) : Int × Int := if r.2 ≠ 0 then (0, r.2) else if 18446744073709551615 / u < r.1 then (0, 5) else (r.1 * u, 0)

end Go.Proofs.YtffedahmakhjeaaDoor
