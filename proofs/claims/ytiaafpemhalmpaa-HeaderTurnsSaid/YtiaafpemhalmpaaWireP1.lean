/-
  Bytes that a call owns, and what package wire appends to them: a number in as few bytes as it takes. What lay below the heap's end stands, but for the row that is appended to.
-/
import Derived.Test.YtiaafpemhalmpaaWireR4
import Derived.Maps.AppendAt
import Derived.Maps.Range
import Derived.Deep.AppendLies
import Derived.Lib.AppendStr
namespace Go.Proofs.Ytiaafpemhalmpaa
set_option linter.unusedVariables false
set_option linter.unusedSimpArgs false
open Go.ChangeShapes Go.WideShapes Go.ChangeAt Go.RowKit
attribute [-go_sem] run_index_string binOp_string_eql binOp_string_neq run_string_add_if run_slice_string_from_if run_slice_string_to_if
attribute [local go_sem] index_bt add_fits slice_from slice_to eql_str neq_str alloc_drewN setCell_drewN

/-- A slice of bytes that the call owns: a string's bytes. -/
def Own (w : World) (base : Nat) (v : Value) (t : ByteArray) : Prop := w.ownsRow base 5 1 v t.size (Lib.strCells t)
/-- What an append leaves: all but the row that was appended to; the new row is that row or lies behind. -/
structure Kin (w w' : World) (v v' : Value) : Prop where
  grown : w.grownBy w' v.ownBlock
  own : ∀ j, v'.ownBlock = some j → w.heap.size ≤ j ∨ v.ownBlock = some j
theorem Kin.refl (w : World) (v : Value) : Kin w w v v := ⟨⟨rfl, rfl, rfl, Nat.le_refl _, fun _ _ _ => rfl⟩, fun j h => Or.inr h⟩
theorem Kin.trans {a b c : World} {u v x : Value} (h : Kin a b u v) (k : Kin b c v x) : Kin a c u x :=
  ⟨h.grown.andThen k.grown h.own, fun j hj => by
    rcases k.own j hj with h1 | h1
    · exact Or.inl (Nat.le_trans h.grown.size h1)
    · exact h.own j h1⟩
theorem Kin.alloc {w w' : World} {v v' : Value} (o : Obj) (h : (w.alloc o).grownBy w' v.ownBlock) (k : v'.ownBlock = v.ownBlock ∨ v'.ownBlock = some (w.alloc o).heap.size) : Kin w w' v v' :=
  ⟨(World.grownBy_alloc w o v.ownBlock).andThen h (fun j hj => Or.inr hj), fun j hj => by
    rcases k with k | k
    · exact Or.inr (by rw [← k]; exact hj)
    · left
      rw [k] at hj
      simp at hj
      omega⟩
theorem strCells_add (t : ByteArray) (x : Int) (x0 : 0 ≤ x) (x1 : x ≤ 255) : Lib.strCells (t ++ chrs [x]) = Lib.strCells t ++ [.int .u8 x] := by
  unfold Lib.strCells
  rw [ByteArray.data_append, Array.toList_append, List.map_append]
  congr 1
  show [Value.int .u8 ((UInt8.ofNat x.toNat).toNat : Int)] = _
  rw [byte_of x x0 x1]
theorem strCells_append (s t : ByteArray) : Lib.strCells (s ++ t) = Lib.strCells s ++ Lib.strCells t := by
  unfold Lib.strCells
  rw [ByteArray.data_append, Array.toList_append, List.map_append]
theorem or_more (x : Int) (x0 : 0 ≤ x) (x1 : x ≤ 255) : bits .or .u8 x 128 = 128 + x % 128 := by
  have h : ∀ y : Fin 256, bits .or .u8 (y.val : Int) 128 = 128 + (y.val : Int) % 128 := by decide +kernel
  have := h ⟨x.toNat, by omega⟩
  simp only at this
  rw [Int.toNat_of_nonneg x0] at this
  exact this

end Go.Proofs.Ytiaafpemhalmpaa
