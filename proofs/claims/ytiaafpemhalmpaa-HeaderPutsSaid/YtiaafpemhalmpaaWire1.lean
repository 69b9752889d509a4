/-
  What the calls of package wire that make no rows return, for any fields and strings: whether a field is right, how many bytes it has, what a string begins with. What lay below the heap's end stands.
-/
import Derived.Test.YtiaafpemhalmpaaWireMath
import Derived.Test.YtiaafpemhalmpaaShelf
import Derived.Test.YtiaafpemhalmpaaSum3
import Derived.Deep.QuietTactic
namespace Go.Proofs.Ytiaafpemhalmpaa
set_option linter.unusedVariables false
set_option linter.unusedSimpArgs false
open Go.ChangeShapes Go.WideShapes Go.ChangeAt Go.RowKit
attribute [-go_sem] run_index_string binOp_string_eql binOp_string_neq run_string_add_if run_slice_string_from_if run_slice_string_to_if
attribute [local go_sem] index_bt add_fits slice_from slice_to eql_str neq_str alloc_drewN setCell_drewN

/-- A field as a value. -/
def Fd.val (f : Fd) : Value := .agg #[.int .i64 f.k, .int .u64 f.n, .string f.s]

theorem turn {P : Program} {f : FuncId} {args : Array Value} {w : World} {x : Ending} (h : Calls P f args w fun e w' => e = x ∧ w = w') : Calls P f args w fun e w' => e = x ∧ w' = w := h.mono fun _ _ ⟨a, b⟩ => ⟨a, b.symm⟩

/-- How many bytes a field has. -/
theorem enc_size (f : Fd) (hk : 1 ≤ f.k) (hk6 : f.k ≤ 6) : (enc f).size = if f.k = 6 then (fw f.s.size).size + f.s.size else if f.k = 5 then (fw f.n).size else wk f.k := by
  unfold enc
  split
  · rw [ByteArray.size_append]
  · split
    · rfl
    · exact hib_size _ _

theorem er_range (f : Fd) (h : er f = 0) : 1 ≤ f.k ∧ f.k ≤ 6 ∧ f.s.size ≤ 65535 ∧ (f.k = 6 → f.n = 0) ∧ (f.k ≠ 6 → f.s = ⟨#[]⟩) ∧ (f.k ≤ 4 → f.n < 256 ^ wk f.k) := by
  unfold er at h
  split at h
  · simp at h
  · rename_i h1
    split at h
    · simp at h
    · rename_i h2
      split at h
      · simp at h
      · rename_i h3
        split at h
        · simp at h
        · rename_i h4
          refine ⟨by omega, by omega, by omega, fun h6 => Classical.byContradiction fun hn => h2 (Or.inl ⟨h6, hn⟩), fun h6 => Classical.byContradiction fun hn => h2 (Or.inr ⟨h6, hn⟩), fun h5 => ?_⟩
          apply Classical.byContradiction
          intro hn
          exact h3 ⟨h5, by omega⟩

theorem er_cases (f : Fd) : er f = 0 ∨ er f = 4 ∨ er f = 5 ∨ er f = 6 := by
  unfold er
  split
  · simp
  · split
    · simp
    · split
      · simp
      · split <;> simp

end Go.Proofs.Ytiaafpemhalmpaa
