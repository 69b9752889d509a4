/-
  How many bytes a field has, by package wire, for any field; what lay below the heap's end stands.
-/
import Derived.Test.YtapjebhdgcpdjaaWire1
import Derived.Deep.QuietTactic
namespace Go.Proofs.Ytapjebhdgcpdjaa
set_option linter.unusedVariables false
set_option linter.unusedSimpArgs false
open Go.ChangeShapes Go.WideShapes Go.ChangeAt Go.RowKit
attribute [-go_sem] run_index_string binOp_string_eql binOp_string_neq run_string_add_if run_slice_string_from_if run_slice_string_to_if
attribute [local go_sem] index_bt add_fits slice_from slice_to eql_str neq_str alloc_drewN setCell_drewN

/-- The cells of a field that was laid, in all worlds behind. -/
theorem field_cells (w : World) (k n : Int) (s : ByteArray) (t : TypeId) (v : World) (hv : Below (w.alloc (.cells #[.int .i64 k, .int .u64 n, .string s] t)).heap.size (w.alloc (.cells #[.int .i64 k, .int .u64 n, .string s] t)) v) :
    v.cell? ⟨w.heap.size, 0, none⟩ = some (.int .i64 k) ∧ v.cell? ⟨w.heap.size, 1, none⟩ = some (.int .u64 n) ∧ v.cell? ⟨w.heap.size, 2, none⟩ = some (.string s) := by
  refine ⟨(hv.cell (p := ⟨w.heap.size, 0, none⟩) (by simp)).trans ?_, (hv.cell (p := ⟨w.heap.size, 1, none⟩) (by simp)).trans ?_, (hv.cell (p := ⟨w.heap.size, 2, none⟩) (by simp)).trans ?_⟩ <;> simp [go_sem]

end Go.Proofs.Ytapjebhdgcpdjaa
