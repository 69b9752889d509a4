/-
  What a string begins with, by package wire: a number of so many bytes, a number in as few as it takes, a text; for any string. The world is as it was.
-/
import Derived.Test.YtiaafpemhalmpaaWire1b
namespace Go.Proofs.Ytiaafpemhalmpaa
set_option linter.unusedVariables false
set_option linter.unusedSimpArgs false
open Go.ChangeShapes Go.WideShapes Go.ChangeAt Go.RowKit
attribute [-go_sem] run_index_string binOp_string_eql binOp_string_neq run_string_add_if run_slice_string_from_if run_slice_string_to_if
attribute [local go_sem] index_bt add_fits slice_from slice_to eql_str neq_str alloc_drewN setCell_drewN

theorem be_small (s : ByteArray) (k : Nat) (h : k ≤ 7) : be s k ≤ 72057594037927935 := by
  have := (be_bd s k).2
  have hk : k = 0 ∨ k = 1 ∨ k = 2 ∨ k = 3 ∨ k = 4 ∨ k = 5 ∨ k = 6 ∨ k = 7 := by omega
  rcases hk with rfl | rfl | rfl | rfl | rfl | rfl | rfl | rfl <;> omega
theorem or_low (x y : Int) (x0 : 0 ≤ x) (x1 : x ≤ 72057594037927935) (y0 : 0 ≤ y) (y1 : y ≤ 255) : bits .or .u64 (x * 256) y = x * 256 + y :=
  bits_join .u64 64 (by decide) (fun n h0 h1 => by rw [IntKind.wrap_u64]; omega) 8 (x * 256) y (by omega) (by omega) (by omega) y0 (by omega) (by omega)
theorem and_seven (x : Int) (x0 : 0 ≤ x) (x1 : x ≤ 255) : bits .and .u8 x 127 = x % 128 :=
  bits_mask .u8 8 (by decide) wraps_u8 7 (by decide) x x0 (by omega)

theorem or_swap (x y : Int) : bits .or .u64 x y = bits .or .u64 y x := by simp only [bits, BitVec.or_comm]
theorem or_var (k : Nat) (hk : k ≤ 9) (v d : Int) (v0 : 0 ≤ v) (v1 : v < 128 ^ k) (d0 : 0 ≤ d) (d1 : d ≤ 127) (d9 : k = 9 → d ≤ 1) :
    IntKind.u64.wrap (d * 2 ^ (7 * k)) = d * 128 ^ k ∧ bits .or .u64 v (d * 128 ^ k) = v + d * 128 ^ k ∧ 0 ≤ d * 128 ^ k ∧ v + d * 128 ^ k ≤ 18446744073709551615 := by
  have e : (2 : Int) ^ (7 * k) = 128 ^ k := by rw [Int.pow_mul]; rfl
  rw [e]
  have hc : k = 0 ∨ k = 1 ∨ k = 2 ∨ k = 3 ∨ k = 4 ∨ k = 5 ∨ k = 6 ∨ k = 7 ∨ k = 8 ∨ k = 9 := by omega
  have key : 0 ≤ d * 128 ^ k ∧ v + d * 128 ^ k ≤ 18446744073709551615 := by
    rcases hc with rfl | rfl | rfl | rfl | rfl | rfl | rfl | rfl | rfl | rfl <;> omega
  refine ⟨by rw [IntKind.wrap_u64]; omega, ?_, key.1, key.2⟩
  rw [or_swap, Int.add_comm]
  have hj := bits_join .u64 64 (by decide) (fun n h0 h1 => by rw [IntKind.wrap_u64]; omega) (7 * k) (d * 128 ^ k) v key.1 (by rw [e]; exact Int.mul_emod_left _ _) (by omega) v0 (by rw [e]; exact v1) (by omega)
  exact hj

end Go.Proofs.Ytiaafpemhalmpaa
