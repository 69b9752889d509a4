/-
  That the same fields are told the same, by the document's answer for layer 4; rows of fields that a call owns, cell by cell. What lay below the heap's end stands.
-/
import Derived.Test.YtapjebhdgcpdjaaWireT2
import Derived.Laws.StructEq
namespace Go.Proofs.Ytapjebhdgcpdjaa
set_option linter.unusedVariables false
set_option linter.unusedSimpArgs false
open Go.ChangeShapes Go.WideShapes Go.ChangeAt Go.RowKit
attribute [-go_sem] run_index_string binOp_string_eql binOp_string_neq run_string_add_if run_slice_string_from_if run_slice_string_to_if
attribute [local go_sem] index_bt add_fits slice_from slice_to eql_str neq_str alloc_drewN setCell_drewN

/-- The cells of a row of fields. -/
def FCells (w : World) (b off : Nat) (fs : List Fd) : Prop := ∀ i, i < fs.length →
  w.cell? ⟨b, off + i * 3, none⟩ = some (.int .i64 (fs.getD i Fd.nil).k) ∧ w.cell? ⟨b, off + i * 3 + 1, none⟩ = some (.int .u64 (fs.getD i Fd.nil).n) ∧ w.cell? ⟨b, off + i * 3 + 2, none⟩ = some (.string (fs.getD i Fd.nil).s)
theorem flat_get (fl : List Fd) : ∀ i, i < fl.length → (fl.flatMap Fd.cells)[i * 3]? = some (.int .i64 (fl.getD i Fd.nil).k) ∧ (fl.flatMap Fd.cells)[i * 3 + 1]? = some (.int .u64 (fl.getD i Fd.nil).n) ∧ (fl.flatMap Fd.cells)[i * 3 + 2]? = some (.string (fl.getD i Fd.nil).s) := by
  induction fl with
  | nil => intro i h; simp at h
  | cons f fl ih =>
    intro i hi
    rw [List.flatMap_cons]
    cases i with
    | zero => exact ⟨rfl, rfl, rfl⟩
    | succ i =>
      have := ih i (by simpa using hi)
      have e : ∀ o, (Fd.cells f ++ fl.flatMap Fd.cells)[(i + 1) * 3 + o]? = (fl.flatMap Fd.cells)[i * 3 + o]? := fun o => by
        rw [List.getElem?_append_right (by show 3 ≤ _; omega)]
        congr 1
        show (i + 1) * 3 + o - 3 = _
        omega
      have e0 := e 0
      rw [Nat.add_zero, Nat.add_zero] at e0
      rw [e0, e 1, e 2]
      simpa using this
theorem own_fields (w : World) (base : Nat) (t : TypeId) (v : Value) (fl : List Fd) (h : w.ownsRow base t 3 v fl.length (fl.flatMap Fd.cells)) :
    (v = .slice none 0 0 ∧ fl = []) ∨ ∃ g cap, v = .slice (some ⟨g, 0, none⟩) fl.length cap ∧ base ≤ g ∧ g < w.heap.size ∧ FCells w g 0 fl := by
  have h' := h
  rcases h'.2 with ⟨rfl, h0⟩ | ⟨g, cap, cur, rfl, hb, _⟩
  · exact Or.inl ⟨rfl, List.length_eq_zero_iff.1 h0⟩
  · refine Or.inr ⟨g, cap, rfl, hb, (World.ownsRow.lt h g rfl).2, fun i hi => ?_⟩
    obtain ⟨h0, h1, h2⟩ := flat_get fl i hi
    have e : ∀ o, (⟨g, 0, none⟩ : Addr).add o = ⟨g, 0 + o, none⟩ := fun o => Go.WideShapes.add_plain _ _ _
    have c0 := h.cells (g := g) rfl _ _ h0
    have c1 := h.cells (g := g) rfl _ _ h1
    have c2 := h.cells (g := g) rfl _ _ h2
    rw [e] at c0 c1 c2
    exact ⟨c0, c1, c2⟩

end Go.Proofs.Ytapjebhdgcpdjaa
