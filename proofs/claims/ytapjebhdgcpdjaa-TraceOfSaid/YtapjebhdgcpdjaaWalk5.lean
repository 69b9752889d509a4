/-
  The laws of layer 5, walked: each returns true for any strings and numbers. No condition.
-/
import Derived.Test.YtapjebhdgcpdjaaSumCat
namespace Go.Proofs.Ytapjebhdgcpdjaa
set_option linter.unusedVariables false
set_option linter.unusedSimpArgs false
open Go.ChangeShapes Go.WideShapes Go.ChangeAt Go.RowKit
attribute [-go_sem] run_index_string binOp_string_eql binOp_string_neq run_string_add_if run_slice_string_from_if run_slice_string_to_if
attribute [local go_sem] index_bt add_fits slice_from slice_to eql_str neq_str alloc_drewN setCell_drewN conv_one conv_four conv_one_drew conv_four_two

/-- A number as a byte. -/
def u8 (c : Int) : UInt8 := UInt8.ofNat c.toNat
theorem u8_val (x : Int) (h0 : 0 ≤ x) (h1 : x ≤ 255) : ((u8 x).toNat : Int) = x := byte_of x h0 h1
theorem with_at (s : ByteArray) (k : Nat) (i c : Int) (hi : i = k) (hk : k < s.size) (hs : s.size ≤ 140737488355328) (c0 : 0 ≤ c) (c1 : c ≤ 255) (w : World) :
    Calls Try.prog 36 #[.string s, .int .i64 i, .int .u8 c] w fun e w' => e = .returned (.string (wth s k (u8 c))) ∧ Below w.heap.size w w' := by
  subst hi
  exact with_any s k c hk hs c0 c1 w
/-- A string with the two bytes of the word j other ones. -/
def two (s : ByteArray) (j : Nat) (x y : Int) : ByteArray := wth (wth s (2 * j) (u8 x)) (2 * j + 1) (u8 y)
theorem two_size (s : ByteArray) (j : Nat) (x y : Int) (h : 2 * j + 1 < s.size) : (two s j x y).size = s.size := by
  have h1 := wth_size s (2 * j) (u8 x) (by omega)
  exact (wth_size _ _ _ (by omega)).trans h1
theorem two_bt (s : ByteArray) (j : Nat) (x y : Int) (h : 2 * j + 1 < s.size) (i : Nat) (h0 : i ≠ 2 * j) (h1 : i ≠ 2 * j + 1) : bt (two s j x y) i = bt s i := by
  have e1 := wth_size s (2 * j) (u8 x) (by omega)
  unfold two
  rw [wth_bt _ _ _ (by omega), if_neg h1, wth_bt _ _ _ (by omega), if_neg h0]
theorem two_wd (s : ByteArray) (j : Nat) (x y : Int) (h : 2 * j + 1 < s.size) (x0 : 0 ≤ x) (x1 : x ≤ 255) (y0 : 0 ≤ y) (y1 : y ≤ 255) : wd (two s j x y) j = x * 256 + y := by
  have e1 := wth_size s (2 * j) (u8 x) (by omega)
  unfold wd two
  rw [wth_bt _ _ _ (by omega), if_neg (by omega), wth_bt _ _ _ (by omega), if_pos rfl, wth_bt _ _ _ (by omega), if_pos rfl, u8_val x x0 x1, u8_val y y0 y1]

theorem place (a : Int) (n : Nat) (h : 0 < n) : ∃ j : Nat, j < n ∧ a % 18446744073709551616 % (n : Int) = (j : Int) := by
  have h1 := Int.emod_nonneg (a % 18446744073709551616) (show (n : Int) ≠ 0 by omega)
  have h2 := Int.emod_lt_of_pos (a % 18446744073709551616) (show (0 : Int) < n by omega)
  exact ⟨(a % 18446744073709551616 % (n : Int)).toNat, by omega, by omega⟩

attribute [local go_sem high] index_at
end Go.Proofs.Ytapjebhdgcpdjaa
