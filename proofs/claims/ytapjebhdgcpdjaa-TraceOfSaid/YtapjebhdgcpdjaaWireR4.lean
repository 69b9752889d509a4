/-
  The field that a string begins with, by the document's answer for layer 4. What lay below the heap's end stands.
-/
import Derived.Test.YtapjebhdgcpdjaaWireR3
import Derived.Deep.RegionHeld3
namespace Go.Proofs.Ytapjebhdgcpdjaa
set_option linter.unusedVariables false
set_option linter.unusedSimpArgs false
open Go.ChangeShapes Go.WideShapes Go.ChangeAt Go.RowKit
attribute [-go_sem] run_index_string binOp_string_eql binOp_string_neq run_string_add_if run_slice_string_from_if run_slice_string_to_if
attribute [local go_sem] index_bt add_fits slice_from slice_to eql_str neq_str alloc_drewN setCell_drewN
attribute [local go_sem high] index_at

/-- Two fields that were laid, one behind the other: their cells, and that they may be written, in all worlds behind. -/
theorem two_fields (w : World) (k : Int) (t : TypeId) (v : World)
    (hv : Below ((w.alloc (.cells #[.int .i64 0, .int .u64 0, .string ⟨#[]⟩] t)).alloc (.cells #[.int .i64 k, .int .u64 0, .string ⟨#[]⟩] t)).heap.size ((w.alloc (.cells #[.int .i64 0, .int .u64 0, .string ⟨#[]⟩] t)).alloc (.cells #[.int .i64 k, .int .u64 0, .string ⟨#[]⟩] t)) v) :
    (v.cell? ⟨w.heap.size, 0, none⟩ = some (.int .i64 0) ∧ v.cell? ⟨w.heap.size, 1, none⟩ = some (.int .u64 0) ∧ v.cell? ⟨w.heap.size, 2, none⟩ = some (.string ⟨#[]⟩)) ∧
    (v.cell? ⟨w.heap.size + 1, 0, none⟩ = some (.int .i64 k) ∧ v.cell? ⟨w.heap.size + 1, 1, none⟩ = some (.int .u64 0) ∧ v.cell? ⟨w.heap.size + 1, 2, none⟩ = some (.string ⟨#[]⟩)) ∧
    (∀ o, v.frozen? ⟨w.heap.size, o, none⟩ = false) ∧ (∀ o, v.frozen? ⟨w.heap.size + 1, o, none⟩ = false) ∧ w.heap.size + 2 ≤ v.heap.size := by
  have hs := hv.size
  simp at hs
  refine ⟨⟨(hv.cell (p := ⟨w.heap.size, 0, none⟩) (by simp; omega)).trans ?_, (hv.cell (p := ⟨w.heap.size, 1, none⟩) (by simp; omega)).trans ?_, (hv.cell (p := ⟨w.heap.size, 2, none⟩) (by simp; omega)).trans ?_⟩,
    ⟨(hv.cell (p := ⟨w.heap.size + 1, 0, none⟩) (by simp)).trans ?_, (hv.cell (p := ⟨w.heap.size + 1, 1, none⟩) (by simp)).trans ?_, (hv.cell (p := ⟨w.heap.size + 1, 2, none⟩) (by simp)).trans ?_⟩,
    fun o => (hv.frozen (p := ⟨w.heap.size, o, none⟩) (by simp; omega)).trans ?_, fun o => (hv.frozen (p := ⟨w.heap.size + 1, o, none⟩) (by simp)).trans ?_, by omega⟩ <;> simp [go_sem]
end Go.Proofs.Ytapjebhdgcpdjaa
