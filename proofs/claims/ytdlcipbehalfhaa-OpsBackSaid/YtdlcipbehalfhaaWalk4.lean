/-
  Laws of layer 4, walked: what is put and what is taken is the document's, for any fields, kinds and bytes. No condition.
-/
import Derived.Test.YtdlcipbehalfhaaWireL
namespace Go.Proofs.Ytdlcipbehalfhaa
set_option linter.unusedVariables false
set_option linter.unusedSimpArgs false
open Go.ChangeShapes Go.WideShapes Go.ChangeAt Go.RowKit
attribute [-go_sem] run_index_string binOp_string_eql binOp_string_neq run_string_add_if run_slice_string_from_if run_slice_string_to_if
attribute [local go_sem] index_bt add_fits slice_from slice_to eql_str neq_str alloc_drewN setCell_drewN

/-- The row that a call hands back, in a later world. -/
theorem FCells.later {W v : World} {g off : Nat} {fl : List Fd} (h : FCells W g off fl) (hg : g < W.heap.size) (hb : Below W.heap.size W v) : FCells v g off fl := fun i hi => by
  obtain ⟨c0, c1, c2⟩ := h i hi
  exact ⟨(hb.cell (p := ⟨g, off + i * 3, none⟩) hg).trans c0, (hb.cell (p := ⟨g, off + i * 3 + 1, none⟩) hg).trans c1, (hb.cell (p := ⟨g, off + i * 3 + 2, none⟩) hg).trans c2⟩
theorem tl_len (s : ByteArray) : ∀ (ks : List Int) (d : Nat), (tl s ks d).1.length ≤ ks.length
  | [], d => Nat.le_refl _
  | k :: ks, d => by
    have ih := tl_len s ks (d + (tk (s.extract d s.size) k).2.1)
    unfold tl
    split
    · exact Nat.zero_le _
    · split
      · exact Nat.zero_le _
      · show (_ :: _ : List Fd).length ≤ _
        simp only [List.length_cons]
        omega
theorem Take_none (s : ByteArray) (a : Option Addr) (c : Nat) (w : World) :
    Calls Try.prog 140 #[.string s, .slice a 0 c] w fun e w' => e = .returned (.tuple #[.slice none 0 0, .int .i64 0, .int .i64 0]) ∧ Below w.heap.size w w' := by
  go_enter Try.func140, Try.ntmps140
  go_wp2
  refine wp_loop_rounds 1 ?_
  rw [rounds_succ]
  go_wp2
  go_ret3
  exact ⟨rfl, Below.refl _ _⟩
theorem refTake_none (s : ByteArray) (a : Option Addr) (c : Nat) (w : World) :
    Calls Try.prog 90 #[.string s, .slice a 0 c] w fun e w' => e = .returned (.tuple #[.slice none 0 0, .int .i64 0, .int .i64 0]) ∧ Below w.heap.size w w' := by
  go_enter Try.func90, Try.ntmps90
  go_wp2
  refine wp_loop_rounds 1 ?_
  rw [rounds_succ]
  go_wp2
  go_ret3
  exact ⟨rfl, Below.refl _ _⟩
end Go.Proofs.Ytdlcipbehalfhaa
