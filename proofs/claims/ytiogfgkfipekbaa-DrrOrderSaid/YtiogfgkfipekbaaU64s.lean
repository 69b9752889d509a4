/-
  Slices of words: how they stand. No condition.
-/
import Derived.Test.YtiogfgkfipekbaaRows
import Derived.Test.YtiogfgkfipekbaaBase
import Derived.Test.YtiogfgkfipekbaaInts
import Derived.Deep.AppendLies
import Derived.Outline
namespace Go.Proofs.Ytiogfgkfipekbaa
set_option linter.unusedVariables false
set_option linter.unusedSimpArgs false
open Go.ChangeShapes Go.WideShapes Go.ChangeAt Go.RowKit
attribute [local go_sem] alloc_drewN setCell_drewN

theorem infoU : (Try.prog.info? 22).map (fun i => (i.zero, i.size, i.bytes)) = some (some (.int .u64 0), 1, 8) := by kernel_rfl
def U64s (w : World) (base : Nat) (v : Value) (xs : List Int) : Prop := w.ownsRow base 22 1 v xs.length (xs.map (Value.int .u64))
theorem U64s.form {w : World} {base : Nat} {v : Value} {xs : List Int} (h : U64s w base v xs) : ∃ a c, v = .slice a xs.length c ∧ xs.length ≤ c ∧ ∀ i, i < xs.length → ∃ g, a = some ⟨g, 0, none⟩ ∧ base ≤ g ∧ g < w.heap.size ∧ w.cell? ⟨g, i, none⟩ = some (.int .u64 (xs.getD i 0)) ∧ w.frozen? ⟨g, i, none⟩ = false := by
  have h' := h
  unfold U64s at h'
  rcases h'.2 with ⟨rfl, h0⟩ | ⟨g, cap, cur, rfl, hb, hg, h1, _⟩
  · exact ⟨none, 0, by rw [h0], by omega, fun i hi => by omega⟩
  · refine ⟨some ⟨g, 0, none⟩, cap, rfl, h1, fun i hi => ⟨g, rfl, hb, (Array.getElem?_eq_some_iff.1 hg).1, ?_, h'.frozenAt i⟩⟩
    rw [h'.cellAt i (by omega), List.getElem?_map, List.getElem?_eq_getElem hi, List.getD_eq_getElem?_getD, List.getElem?_eq_getElem hi]
    rfl
theorem U64s.below {w w' : World} {base : Nat} {v : Value} {xs : List Int} (h : U64s w base v xs) (hb : Below w.heap.size w w') : U64s w' base v xs :=
  World.ownsRow.kept (row := some w.heap.size) h ⟨hb.os, hb.tape, hb.output, hb.size, fun k hk _ => hb.block k hk⟩ (Or.inr (fun hh => by have := World.ownsRow.lt h _ hh; omega))
theorem U64s.of_append {w' : World} {base : Nat} {v' : Value} {xs : List Int} {x : Int} (h : w'.ownsRow base 22 1 v' (xs.length + 1) (xs.map (Value.int .u64) ++ [.int .u64 x])) : U64s w' base v' (xs ++ [x]) := by
  unfold U64s
  rw [List.length_append, List.map_append]
  exact h
theorem U64s.heap {w w' : World} {base : Nat} {v : Value} {xs : List Int} (h : U64s w base v xs) (e : w'.heap = w.heap) : U64s w' base v xs := by
  unfold U64s World.ownsRow at h ⊢
  rw [e]; exact h
theorem U64s.nil (w : World) (base : Nat) : U64s w base (.slice none 0 0) [] := World.ownsRow_nil _ _ _ _
end Go.Proofs.Ytiogfgkfipekbaa
