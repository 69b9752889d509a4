/-
  The document's answer for layer 3, lists: the words of a line, texts joined, lists told the same. What lay below the heap's end stands. No condition but that lines are short.
-/
import Derived.Test.YtffedahmakhjeaaDoorDigRef2
import Derived.Maps.AppendAt
namespace Go.Proofs.YtffedahmakhjeaaDoor
set_option linter.unusedVariables false
set_option linter.unusedSimpArgs false
open Go.ChangeShapes Go.WideShapes Go.ChangeAt Go.RowKit
attribute [-go_sem] run_index_string binOp_string_eql binOp_string_neq run_string_add_if run_slice_string_from_if run_slice_string_to_if
attribute [local go_sem] index_bt add_fits slice_from slice_to eql_str neq_str alloc_drewN setCell_drewN

/-- Texts joined by blanks: the first ones. -/
def jn (ss : List ByteArray) : Nat → ByteArray
  | 0 => ⟨#[]⟩
  | k + 1 => (if 0 < k then jn ss k ++ ⟨#[32]⟩ else jn ss k) ++ ss.getD k ByteArray.empty
/-- The length of the first texts with a blank each. -/
def ln (ss : List ByteArray) : Nat → Nat
  | 0 => 0
  | k + 1 => ln ss k + (ss.getD k ByteArray.empty).size + 1
theorem jn_size (ss : List ByteArray) : ∀ k, (jn ss k).size ≤ ln ss k
  | 0 => Nat.le_refl _
  | k + 1 => by
    have ih := jn_size ss k
    show ((if 0 < k then jn ss k ++ ⟨#[32]⟩ else jn ss k) ++ ss.getD k ByteArray.empty).size ≤ ln ss k + (ss.getD k ByteArray.empty).size + 1
    rw [ByteArray.size_append]
    split
    · rw [ByteArray.size_append]
      have : (⟨#[32]⟩ : ByteArray).size = 1 := rfl
      omega
    · omega
theorem ln_mono (ss : List ByteArray) (k : Nat) : ∀ m, ln ss k ≤ ln ss (k + m)
  | 0 => Nat.le_refl _
  | m + 1 => by
    have := ln_mono ss k m
    show _ ≤ ln ss (k + m) + _ + 1
    omega

/-- The cells of a row of strings. -/
def SCells (w : World) (b off : Nat) (ss : List ByteArray) : Prop := ∀ i, i < ss.length → w.cell? ⟨b, off + i, none⟩ = some (.string (ss.getD i ByteArray.empty))

/-- Is a byte a blank? -/
def Blank (c : Int) : Prop := c = 32 ∨ c = 9
instance (c : Int) : Decidable (Blank c) := by unfold Blank; exact inferInstance
/-- The words of the first bytes, and what is begun. -/
def ws (s : ByteArray) : Nat → List ByteArray × ByteArray
  | 0 => ([], ⟨#[]⟩)
  | k + 1 => if Blank (bt s k) then (if (ws s k).2 = ⟨#[]⟩ then (ws s k).1 else (ws s k).1 ++ [(ws s k).2], ⟨#[]⟩) else ((ws s k).1, (ws s k).2 ++ chrs [bt s k])
/-- The words of a line. -/
def wl (s : ByteArray) : List ByteArray := if (ws s s.size).2 = ⟨#[]⟩ then (ws s s.size).1 else (ws s s.size).1 ++ [(ws s s.size).2]
theorem ws_small (s : ByteArray) : ∀ k, (ws s k).1.length ≤ k ∧ (ws s k).2.size ≤ k
  | 0 => ⟨Nat.le_refl _, Nat.le_refl _⟩
  | k + 1 => by
    obtain ⟨h1, h2⟩ := ws_small s k
    unfold ws
    split
    · refine ⟨?_, Nat.zero_le _⟩
      show (if _ then _ else _ : List ByteArray).length ≤ _
      split
      · omega
      · rw [List.length_append]; simp; omega
    · refine ⟨by show (ws s k).1.length ≤ _; omega, ?_⟩
      show ((ws s k).2 ++ chrs [bt s k]).size ≤ _
      rw [ByteArray.size_append, chrs_size]; simp; omega
theorem infoStr : (Tryd.prog.info? 9).map (fun i => (i.zero, i.size, i.bytes)) = some (some (.string ⟨#[]⟩), 1, 16) := by kernel_rfl

theorem cells_new1 (w : World) (v : Value) (t : TypeId) : ∀ j u, [v][j]? = some u → (w.alloc (.cells #[v] t)).cell? ((⟨w.heap.size, 0, none⟩ : Addr).add j) = some u := by
  intro j u h
  cases j with
  | zero =>
    have : v = u := by simpa using h
    subst this
    simp [go_sem, Addr.add]
  | succ j => simp at h

end Go.Proofs.YtffedahmakhjeaaDoor
