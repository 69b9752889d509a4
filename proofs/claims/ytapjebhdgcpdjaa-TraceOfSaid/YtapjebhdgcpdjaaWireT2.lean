/-
  The fields that a string begins with, one kind after the other, by the document's answer for layer 4; for at most two hundred kinds. What lay below the heap's end stands.
-/
import Derived.Test.YtapjebhdgcpdjaaWireT1
import Derived.Deep.RegionHeld3
namespace Go.Proofs.Ytapjebhdgcpdjaa
set_option linter.unusedVariables false
set_option linter.unusedSimpArgs false
open Go.ChangeShapes Go.WideShapes Go.ChangeAt Go.RowKit
attribute [-go_sem] run_index_string binOp_string_eql binOp_string_neq run_string_add_if run_slice_string_from_if run_slice_string_to_if
attribute [local go_sem] index_bt add_fits slice_from slice_to eql_str neq_str alloc_drewN setCell_drewN

end Go.Proofs.Ytapjebhdgcpdjaa
