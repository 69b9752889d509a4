/-
  The examples of chapter 4 hold; how few fields are. What lay below the heap's end stands.
-/
import Derived.Test.YtdlcipbehalfhaaWireT3
namespace Go.Proofs.Ytdlcipbehalfhaa
set_option linter.unusedVariables false
set_option linter.unusedSimpArgs false
open Go.ChangeShapes Go.WideShapes Go.ChangeAt Go.RowKit
attribute [-go_sem] run_index_string binOp_string_eql binOp_string_neq run_string_add_if run_slice_string_from_if run_slice_string_to_if
attribute [local go_sem] index_bt add_fits slice_from slice_to eql_str neq_str alloc_drewN setCell_drewN

def liveF : List Fd := [⟨2, 258, ⟨#[]⟩⟩, ⟨5, 300, ⟨#[]⟩⟩]
theorem live_p : perr liveF = 0 := by kernel_rfl
theorem live_q : pb liveF = ⟨#[1, 2, 172, 2]⟩ := by decide +kernel
theorem live_n : (tl ⟨#[1, 2, 172, 2, 120]⟩ [2, 5] 0).2.1 = 4 := by decide +kernel
theorem live_e : (tl ⟨#[1, 2, 172, 2, 120]⟩ [2, 5] 0).2.2 = 0 := by decide +kernel
theorem live_l : (tl ⟨#[1, 2, 172, 2, 120]⟩ [2, 5] 0).1 = liveF := by kernel_rfl

theorem live_cells (w : World) (t : TypeId) : FCells (w.alloc (.cells #[.int .i64 2, .int .u64 258, .string ⟨#[]⟩, .int .i64 5, .int .u64 300, .string ⟨#[]⟩] t)) w.heap.size 0 liveF := by
  have c := World.cell?_alloc_mark w #[Value.int .i64 2, .int .u64 258, .string ⟨#[]⟩, .int .i64 5, .int .u64 300, .string ⟨#[]⟩] t (0, 0)
  intro i hi
  have hi : i < 2 := hi
  match i, hi with
  | 0, _ => exact ⟨c 0, c 1, c 2⟩
  | 1, _ => exact ⟨c 3, c 4, c 5⟩
theorem live_kinds (w : World) (t : TypeId) : ∀ i, i < 2 → (w.alloc (.cells #[.int .i64 2, .int .i64 5] t)).cell? ⟨w.heap.size, 0 + i, none⟩ = some (.int .i64 (([2, 5] : List Int).getD i 0)) := by
  have c := World.cell?_alloc_mark w #[Value.int .i64 2, .int .i64 5] t (0, 0)
  intro i hi
  match i, hi with
  | 0, _ => exact c 0
  | 1, _ => exact c 1

end Go.Proofs.Ytdlcipbehalfhaa
