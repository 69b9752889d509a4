/-
  The number that a string begins with, by the document's answer for layer 4. The world is as it was.
-/
import Derived.Test.YtapjebhdgcpdjaaWireR2
namespace Go.Proofs.Ytapjebhdgcpdjaa
set_option linter.unusedVariables false
set_option linter.unusedSimpArgs false
open Go.ChangeShapes Go.WideShapes Go.ChangeAt Go.RowKit
attribute [-go_sem] run_index_string binOp_string_eql binOp_string_neq run_string_add_if run_slice_string_from_if run_slice_string_to_if
attribute [local go_sem] index_bt add_fits slice_from slice_to eql_str neq_str alloc_drewN setCell_drewN

end Go.Proofs.Ytapjebhdgcpdjaa
