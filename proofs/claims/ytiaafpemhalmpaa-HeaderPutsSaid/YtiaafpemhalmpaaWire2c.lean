/-
  The field that a string begins with, of any kind, by package wire. What lay below the heap's end stands.
-/
import Derived.Test.YtiaafpemhalmpaaWire2b
namespace Go.Proofs.Ytiaafpemhalmpaa
set_option linter.unusedVariables false
set_option linter.unusedSimpArgs false
open Go.ChangeShapes Go.WideShapes Go.ChangeAt Go.RowKit
attribute [-go_sem] run_index_string binOp_string_eql binOp_string_neq run_string_add_if run_slice_string_from_if run_slice_string_to_if
attribute [local go_sem] index_bt add_fits slice_from slice_to eql_str neq_str alloc_drewN setCell_drewN

theorem tk_text (s : ByteArray) : tk s 6 = (⟨6, 0, (tx s).1⟩, (tx s).2.1, (tx s).2.2) := by
  unfold tk tx
  rw [if_neg (by decide), if_neg (by decide), if_neg (by decide)]
  split
  · rfl
  · split
    · rfl
    · split <;> rfl

end Go.Proofs.Ytiaafpemhalmpaa
