/-
  Parts of strings, and a record more in a row. What lay below the heap's end stands.
-/
import Derived.Test.YtapjebhdgcpdjaaTc5
namespace Go.Proofs.Ytapjebhdgcpdjaa
set_option linter.unusedVariables false
set_option linter.unusedSimpArgs false
open Go.ChangeShapes Go.WideShapes Go.ChangeAt Go.RowKit
attribute [-go_sem] run_index_string binOp_string_eql binOp_string_neq run_string_add_if run_slice_string_from_if run_slice_string_to_if run_slice_string
attribute [local go_sem] index_bt add_fits slice_from slice_to eql_str neq_str alloc_drewN setCell_drewN

def sub39 (s : ByteArray) (i j : Int) : ByteArray := s.extract i.toNat j.toNat
structure Mid39 (s : ByteArray) (i j : Int) : Prop where
  lo : 0 ≤ i
  le : i ≤ j
  hi : j ≤ (s.size : Int)
theorem slice_mid39 {P : Program} (w : World) (t : TypeId) (s : ByteArray) (k k' : IntKind) (i j : Int) (h : P.underlying t = some .string) (hm : Mid39 s i j) :
    (Instr.slice t (.string s) (some (.int k i)) (some (.int k' j)) none).run P w = .ok (.string (sub39 s i j)) w := run_slice_string w t s k k' i j h hm.lo hm.le hm.hi
attribute [local go_sem] slice_mid39
theorem infoRc : (Try.prog.info? 64).map (fun i => (i.zero, i.size, i.bytes)) = some (some (.agg #[.int .u64 0, .int .i64 0, .int .u32 0, .int .u32 0, .int .u64 0, .int .i64 0]), 6, 40) := by kernel_rfl
theorem RRow.snoc {w0 w : World} {v : Value} {l : List Rec} {t k f i n c : Int} (h : w.ownsRow w0.heap.size 64 6 v (l.length + 1) (l.flatMap Rec.cells ++ [.int .u64 t, .int .i64 k, .int .u32 f, .int .u32 i, .int .u64 n, .int .i64 c])) : RRow w0 w v (l ++ [⟨t, k, f, i, n, c⟩]) := by
  unfold RRow
  rw [List.length_append, List.flatMap_append]
  exact h
end Go.Proofs.Ytapjebhdgcpdjaa
