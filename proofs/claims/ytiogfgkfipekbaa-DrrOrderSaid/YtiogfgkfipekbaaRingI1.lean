/-
  What package ring does with a row of elements of type int: the places, what is asked, what is put and taken. What lay below the heap's end stands, but for the ring's own two blocks. No condition but that the ring is one that New made.
-/
import Derived.Test.YtiogfgkfipekbaaRows
import Derived.Test.YtiogfgkfipekbaaBase
import Derived.Test.YtiogfgkfipekbaaRingMath
import Derived.Deep.AppendLies
import Derived.Outline
namespace Go.Proofs.Ytiogfgkfipekbaa
set_option linter.unusedVariables false
set_option linter.unusedSimpArgs false
open Go.ChangeShapes Go.WideShapes Go.ChangeAt Go.RowKit
attribute [local go_sem] alloc_drewN setCell_drewN

/-- A ring: its room, its places, the place of its first element, how many it has. -/
structure RingAtI (w : World) (base B : Nat) (room : Int) (v : Value) (ps : List Int) (f k : Nat) : Prop where
  blk : w.heap[B]? = some (.cells #[.int .i64 room, v, .int .i64 f, .int .i64 k] 184 (0, 0))
  low : base ≤ B
  own : w.ownsRow base 3 1 v ps.length (ps.map (Value.int .i64))
  r0 : 1 ≤ room
  r1 : room ≤ 65536
  le : k ≤ ps.length
  lr : (ps.length : Int) ≤ room
  fl : 0 < ps.length → f < ps.length
theorem RingAtI.drewN {w : World} {base B : Nat} {room : Int} {v : Value} {ps : List Int} {f k : Nat} (h : RingAtI w base B room v ps f k) (n : Nat) : RingAtI (w.drewN n) base B room v ps f k := ⟨h.blk, h.low, h.own, h.r0, h.r1, h.le, h.lr, h.fl⟩
theorem RingAtI.heap {w w' : World} {base B : Nat} {room : Int} {v : Value} {ps : List Int} {f k : Nat} (h : RingAtI w base B room v ps f k) (e : w'.heap = w.heap) : RingAtI w' base B room v ps f k := ⟨by rw [e]; exact h.blk, h.low, h.own.kept (row := none) ⟨rfl, rfl, rfl, Nat.le_refl _, fun _ _ _ => rfl⟩ (by cases v.ownBlock <;> simp) |> fun o => by unfold World.ownsRow at o ⊢; rw [e]; exact o, h.r0, h.r1, h.le, h.lr, h.fl⟩
theorem RingAtI.cell {w : World} {base B : Nat} {room : Int} {v : Value} {ps : List Int} {f k : Nat} (h : RingAtI w base B room v ps f k) :
    w.cell? ⟨B, 0, none⟩ = some (.int .i64 room) ∧ w.cell? ⟨B, 1, none⟩ = some v ∧ w.cell? ⟨B, 2, none⟩ = some (.int .i64 f) ∧ w.cell? ⟨B, 3, none⟩ = some (.int .i64 k) :=
  ⟨cell_of_row w B 0 _ _ (0, 0) h.blk, cell_of_row w B 1 _ _ (0, 0) h.blk, cell_of_row w B 2 _ _ (0, 0) h.blk, cell_of_row w B 3 _ _ (0, 0) h.blk⟩
theorem RingAtI.form {w : World} {base B : Nat} {room : Int} {v : Value} {ps : List Int} {f k : Nat} (h : RingAtI w base B room v ps f k) (hn : 0 < ps.length) :
    ∃ g c, v = .slice (some ⟨g, 0, none⟩) ps.length c ∧ g < w.heap.size ∧ ∀ j, j < ps.length → w.cell? ⟨g, j, none⟩ = some (Value.int .i64 (ps.getD j 0)) := by
  obtain ⟨g, c, rfl, _, hlt⟩ := h.own.form hn
  refine ⟨g, c, rfl, hlt, fun j hj => ?_⟩
  rw [h.own.cellAt j (by omega), List.getElem?_map, List.getElem?_eq_getElem hj, List.getD_eq_getElem?_getD, List.getElem?_eq_getElem hj]
  rfl

theorem lenI {w : World} {base B : Nat} {room : Int} {v : Value} {ps : List Int} {f k : Nat} (h : RingAtI w base B room v ps f k) :
    Calls Try.prog 114 #[.pointer (some ⟨B, 0, none⟩)] w fun e w' => e = .returned (.int .i64 k) ∧ w = w' := by
  obtain ⟨c0, c1, c2, c3⟩ := h.cell
  clear h
  go_enter Try.func114, Try.ntmps114
  go_wp2
  go_ret
  exact ⟨rfl, rfl⟩
theorem len_nilI (w : World) :
    Calls Try.prog 114 #[.pointer none] w fun e w' => e = .returned (.int .i64 0) ∧ w = w' := by
  go_enter Try.func114, Try.ntmps114
  go_wp2
  go_ret
  exact ⟨rfl, rfl⟩
theorem roomI {w : World} {base B : Nat} {room : Int} {v : Value} {ps : List Int} {f k : Nat} (h : RingAtI w base B room v ps f k) :
    Calls Try.prog 110 #[.pointer (some ⟨B, 0, none⟩)] w fun e w' => e = .returned (.int .i64 (room - k)) ∧ ∃ n, w' = w.drewN n := by
  obtain ⟨c0, c1, c2, c3⟩ := h.cell
  have hw : IntKind.i64.wrap (room - k) = room - k := by
    have := h.r0; have := h.r1; have := h.le; have := h.lr
    rw [IntKind.wrap_i64]; omega
  clear h
  go_enter Try.func110, Try.ntmps110
  go_wp2
  go_quiet (fail)
  go_wp2
  go_ret
  exact ⟨rfl, _, rfl⟩
theorem room_nilI (w : World) :
    Calls Try.prog 110 #[.pointer none] w fun e w' => e = .returned (.int .i64 0) ∧ w = w' := by
  go_enter Try.func110, Try.ntmps110
  go_wp2
  go_ret
  exact ⟨rfl, rfl⟩
theorem placeI {w : World} {base B : Nat} {room : Int} {v : Value} {ps : List Int} {f k : Nat} (h : RingAtI w base B room v ps f k) (hn : 0 < ps.length) (i : Int) (i0 : 0 ≤ i) (i1 : i ≤ 1000000) :
    Calls Try.prog 112 #[.pointer (some ⟨B, 0, none⟩), .int .i64 i] w fun e w' => e = .returned (.int .i64 (((f + i.toNat) % ps.length : Nat) : Int)) ∧ ∃ n, w' = w.drewN n := by
  obtain ⟨c0, c1, c2, c3⟩ := h.cell
  obtain ⟨g, c, rfl, -, -⟩ := h.form hn
  obtain ⟨j, rfl⟩ := Int.eq_ofNat_of_zero_le i0
  rw [Int.toNat_natCast]
  have hr : ((f : Int) + j).tmod ps.length = (((f + j) % ps.length : Nat) : Int) := by
    rw [Int.tmod_eq_emod_of_nonneg (by omega)]; exact (Int.natCast_emod (f + j) ps.length).symm
  have hf := h.fl hn
  have hl := h.lr
  have hr1 := h.r1
  have hw : IntKind.i64.wrap ((f : Int) + j) = (f : Int) + j := by rw [IntKind.wrap_i64]; omega
  have hz : ¬ (ps.length : Int) = 0 := by omega
  clear h hf hl hr1 hn i0 i1
  generalize (f + j) % ps.length = q at *
  go_enter Try.func112, Try.ntmps112
  go_wp2
  go_quiet (fail)
  go_wp2
  go_ret
  exact ⟨rfl, _, rfl⟩
end Go.Proofs.Ytiogfgkfipekbaa
