/-
  What package ring does with a row of items over int: the places, what is asked. What lay below the heap's end stands, but for the ring's own two blocks. No condition but that the ring is one that New made.
-/
import Derived.Test.YtiogfgkfipekbaaRows
import Derived.Test.YtiogfgkfipekbaaBase
import Derived.Test.YtiogfgkfipekbaaRingMath
import Derived.Deep.AppendLies
import Derived.Outline
namespace Go.Proofs.Ytiogfgkfipekbaa
set_option linter.unusedVariables false
set_option linter.unusedSimpArgs false
open Go.ChangeShapes Go.WideShapes Go.ChangeAt Go.RowKit
attribute [local go_sem] alloc_drewN setCell_drewN

def icellI (p : Int × Int) : List Value := [.int .u64 p.1, Value.int .i64 p.2]
def iaggI (p : Int × Int) : Value := .agg #[.int .u64 p.1, Value.int .i64 p.2]
def izI : Int × Int := (0, 0)
theorem irow_lenI (xs : List (Int × Int)) : (xs.flatMap icellI).length = xs.length * 2 := by
  induction xs with
  | nil => rfl
  | cons x xs ih => rw [List.flatMap_cons, List.length_append, ih, List.length_cons]; show 2 + _ = _; omega
theorem irow_atI (xs : List (Int × Int)) (h i : Nat) (hh : h < xs.length) (hi : i < 2) : (xs.flatMap icellI)[h * 2 + i]? = (icellI xs[h])[i]? := by
  induction xs generalizing h with
  | nil => exact absurd hh (Nat.not_lt_zero _)
  | cons x xs ih =>
    rw [List.flatMap_cons]
    cases h with
    | zero => rw [Nat.zero_mul, Nat.zero_add, List.getElem?_append_left (by simpa [icellI] using hi)]; rfl
    | succ h =>
      rw [List.getElem?_append_right (by simp [icellI]; omega)]
      have e4 : (h + 1) * 2 + i - (icellI x).length = h * 2 + i := by simp [icellI]; omega
      rw [e4, ih h (by simpa using hh)]; rfl
theorem irow_setI (xs : List (Int × Int)) (h : Nat) (e : Int × Int) (hh : h < xs.length) : ((xs.flatMap icellI).set (h * 2) (.int .u64 e.1)).set (h * 2 + 1) (Value.int .i64 e.2) = (xs.set h e).flatMap icellI := by
  apply List.ext_getElem?
  intro j
  rcases Nat.lt_or_ge j (xs.length * 2) with hj | hj
  · obtain ⟨q, r, rfl, hr⟩ : ∃ q r, j = q * 2 + r ∧ r < 2 := ⟨j / 2, j % 2, by omega, Nat.mod_lt _ (by omega)⟩
    have hq : q < xs.length := by omega
    rw [irow_atI (xs.set h e) q r (by rw [List.length_set]; exact hq) hr]
    by_cases hqh : h = q
    · subst hqh
      have hL := irow_lenI xs
      simp only [List.getElem?_set, List.length_set, hL, List.getElem_set_self]
      match r, hr with
      | 0, _ => simp [icellI]; omega
      | 1, _ => simp [icellI]; omega
    · rw [List.getElem?_set_ne (by omega), List.getElem?_set_ne (by omega), irow_atI xs q r hq hr, List.getElem_set_ne hqh]
  · rw [List.getElem?_eq_none (by rw [List.length_set, List.length_set, irow_lenI]; omega), List.getElem?_eq_none (by rw [irow_lenI, List.length_set]; omega)]
/-- A ring: its room, its places, the place of its first element, how many it has. -/
structure RqAtI (w : World) (base B : Nat) (room : Int) (v : Value) (ps : List (Int × Int)) (f k : Nat) : Prop where
  blk : w.heap[B]? = some (.cells #[.int .i64 room, v, .int .i64 f, .int .i64 k] 187 (0, 0))
  low : base ≤ B
  own : w.ownsRow base 155 2 v ps.length (ps.flatMap icellI)
  r0 : 1 ≤ room
  r1 : room ≤ 65536
  le : k ≤ ps.length
  lr : (ps.length : Int) ≤ room
  fl : 0 < ps.length → f < ps.length
theorem RqAtI.drewN {w : World} {base B : Nat} {room : Int} {v : Value} {ps : List (Int × Int)} {f k : Nat} (h : RqAtI w base B room v ps f k) (n : Nat) : RqAtI (w.drewN n) base B room v ps f k := ⟨h.blk, h.low, h.own, h.r0, h.r1, h.le, h.lr, h.fl⟩
theorem RqAtI.heap {w w' : World} {base B : Nat} {room : Int} {v : Value} {ps : List (Int × Int)} {f k : Nat} (h : RqAtI w base B room v ps f k) (e : w'.heap = w.heap) : RqAtI w' base B room v ps f k := ⟨by rw [e]; exact h.blk, h.low, by have o := h.own; unfold World.ownsRow at o ⊢; rw [e]; exact o, h.r0, h.r1, h.le, h.lr, h.fl⟩
theorem RqAtI.below0 {w w' : World} {base B : Nat} {room : Int} {v : Value} {ps : List (Int × Int)} {f k : Nat} (h : RqAtI w base B room v ps f k) (hb : Below w.heap.size w w') : RqAtI w' base B room v ps f k :=
  ⟨(hb.block B (Array.getElem?_eq_some_iff.1 h.blk).1).trans h.blk, h.low, h.own.kept (row := some w.heap.size) ⟨hb.os, hb.tape, hb.output, hb.size, fun k hk _ => hb.block k hk⟩ (Or.inr (fun hh => by have := h.own.lt _ hh; omega)), h.r0, h.r1, h.le, h.lr, h.fl⟩
theorem RqAtI.cell {w : World} {base B : Nat} {room : Int} {v : Value} {ps : List (Int × Int)} {f k : Nat} (h : RqAtI w base B room v ps f k) :
    w.cell? ⟨B, 0, none⟩ = some (.int .i64 room) ∧ w.cell? ⟨B, 1, none⟩ = some v ∧ w.cell? ⟨B, 2, none⟩ = some (.int .i64 f) ∧ w.cell? ⟨B, 3, none⟩ = some (.int .i64 k) :=
  ⟨cell_of_row w B 0 _ _ (0, 0) h.blk, cell_of_row w B 1 _ _ (0, 0) h.blk, cell_of_row w B 2 _ _ (0, 0) h.blk, cell_of_row w B 3 _ _ (0, 0) h.blk⟩
theorem RqAtI.form {w : World} {base B : Nat} {room : Int} {v : Value} {ps : List (Int × Int)} {f k : Nat} (h : RqAtI w base B room v ps f k) (hn : 0 < ps.length) :
    ∃ g c, v = .slice (some ⟨g, 0, none⟩) ps.length c ∧ g < w.heap.size ∧ ∀ j, j < ps.length → w.cell? ⟨g, j * 2, none⟩ = some (.int .u64 (ps.getD j izI).1) ∧ w.cell? ⟨g, j * 2 + 1, none⟩ = some (Value.int .i64 (ps.getD j izI).2) := by
  obtain ⟨g, c, rfl, _, hlt⟩ := h.own.form hn
  refine ⟨g, c, rfl, hlt, fun j hj => ?_⟩
  rw [List.getD_eq_getElem?_getD, List.getElem?_eq_getElem hj]
  have hc := fun i (hi : i < 2) => (h.own.cellAt (j * 2 + i) (by omega)).trans (irow_atI ps j i hj hi)
  exact ⟨hc 0 (by omega), hc 1 (by omega)⟩

theorem qlenI {w : World} {base B : Nat} {room : Int} {v : Value} {ps : List (Int × Int)} {f k : Nat} (h : RqAtI w base B room v ps f k) :
    Calls Try.prog 81 #[.pointer (some ⟨B, 0, none⟩)] w fun e w' => e = .returned (.int .i64 k) ∧ w = w' := by
  obtain ⟨c0, c1, c2, c3⟩ := h.cell
  clear h
  go_enter Try.func81, Try.ntmps81
  go_wp2
  go_ret
  exact ⟨rfl, rfl⟩
theorem qlen_nilI (w : World) :
    Calls Try.prog 81 #[.pointer none] w fun e w' => e = .returned (.int .i64 0) ∧ w = w' := by
  go_enter Try.func81, Try.ntmps81
  go_wp2
  go_ret
  exact ⟨rfl, rfl⟩
theorem qroomI {w : World} {base B : Nat} {room : Int} {v : Value} {ps : List (Int × Int)} {f k : Nat} (h : RqAtI w base B room v ps f k) :
    Calls Try.prog 108 #[.pointer (some ⟨B, 0, none⟩)] w fun e w' => e = .returned (.int .i64 (room - k)) ∧ ∃ n, w' = w.drewN n := by
  obtain ⟨c0, c1, c2, c3⟩ := h.cell
  have hw : IntKind.i64.wrap (room - k) = room - k := by
    have := h.r0; have := h.r1; have := h.le; have := h.lr
    rw [IntKind.wrap_i64]; omega
  clear h
  go_enter Try.func108, Try.ntmps108
  go_wp2
  go_quiet (fail)
  go_wp2
  go_ret
  exact ⟨rfl, _, rfl⟩
theorem qroom_nilI (w : World) :
    Calls Try.prog 108 #[.pointer none] w fun e w' => e = .returned (.int .i64 0) ∧ w = w' := by
  go_enter Try.func108, Try.ntmps108
  go_wp2
  go_ret
  exact ⟨rfl, rfl⟩
theorem qplaceI {w : World} {base B : Nat} {room : Int} {v : Value} {ps : List (Int × Int)} {f k : Nat} (h : RqAtI w base B room v ps f k) (hn : 0 < ps.length) (i : Int) (i0 : 0 ≤ i) (i1 : i ≤ 1000000) :
    Calls Try.prog 106 #[.pointer (some ⟨B, 0, none⟩), .int .i64 i] w fun e w' => e = .returned (.int .i64 (((f + i.toNat) % ps.length : Nat) : Int)) ∧ ∃ n, w' = w.drewN n := by
  obtain ⟨c0, c1, c2, c3⟩ := h.cell
  obtain ⟨g, c, rfl, -, -⟩ := h.form hn
  obtain ⟨j, rfl⟩ := Int.eq_ofNat_of_zero_le i0
  rw [Int.toNat_natCast]
  have hr : ((f : Int) + j).tmod ps.length = (((f + j) % ps.length : Nat) : Int) := by
    rw [Int.tmod_eq_emod_of_nonneg (by omega)]; exact (Int.natCast_emod (f + j) ps.length).symm
  have hf := h.fl hn
  have hl := h.lr
  have hr1 := h.r1
  have hw : IntKind.i64.wrap ((f : Int) + j) = (f : Int) + j := by rw [IntKind.wrap_i64]; omega
  have hz : ¬ (ps.length : Int) = 0 := by omega
  clear h hf hl hr1 hn i0 i1
  generalize (f + j) % ps.length = q at *
  go_enter Try.func106, Try.ntmps106
  go_wp2
  go_quiet (fail)
  go_wp2
  go_ret
  exact ⟨rfl, _, rfl⟩
end Go.Proofs.Ytiogfgkfipekbaa
