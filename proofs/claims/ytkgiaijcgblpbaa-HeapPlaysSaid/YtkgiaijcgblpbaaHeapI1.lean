/-
  Package heappifo for elements of type int: how a heap stands in memory; which of two items is ahead. What lay below the heap's end stands. No condition but that the heap is one that New made.
-/
import Derived.Test.YtkgiaijcgblpbaaRows
import Derived.Test.YtkgiaijcgblpbaaBase
import Derived.Test.YtkgiaijcgblpbaaRingMv
import Derived.Test.YtkgiaijcgblpbaaHeapMath
import Derived.Test.YtkgiaijcgblpbaaPoolMath
import Derived.Test.YtkgiaijcgblpbaaCmp
import Derived.Deep.AppendLies
import Derived.Outline
import Derived.BigRegion
import Derived.Deep.RegionWith
import Derived.Deep.RegionHeld3
import Derived.StillTailTactics
namespace Go.Proofs.Ytkgiaijcgblpbaa
set_option linter.unusedVariables false
set_option linter.unusedSimpArgs false
open Go.ChangeShapes Go.WideShapes Go.ChangeAt Go.RowKit
attribute [local go_sem] alloc_drewN setCell_drewN

def hcellI (e : Ent Int) : List Value := [.int .u64 e.rk, Value.int .i64 e.x, .int .u64 e.tn]
def haggI (e : Ent Int) : Value := .agg #[.int .u64 e.rk, Value.int .i64 e.x, .int .u64 e.tn]
def hrowI (es : List (Ent Int)) : List Value := es.flatMap hcellI
theorem hrow_lenI (es : List (Ent Int)) : (hrowI es).length = es.length * 3 := by
  induction es with
  | nil => rfl
  | cons e es ih =>
    show (hcellI e ++ hrowI es).length = _
    rw [List.length_append, ih, List.length_cons]
    show 3 + _ = _
    omega
theorem hrow_atI (es : List (Ent Int)) (h i : Nat) (hh : h < es.length) (hi : i < 3) : (hrowI es)[h * 3 + i]? = (hcellI es[h])[i]? := by
  induction es generalizing h with
  | nil => exact absurd hh (Nat.not_lt_zero _)
  | cons e es ih =>
    show (hcellI e ++ hrowI es)[h * 3 + i]? = _
    cases h with
    | zero => rw [Nat.zero_mul, Nat.zero_add, List.getElem?_append_left (by simpa [hcellI] using hi)]; rfl
    | succ h =>
      rw [List.getElem?_append_right (by simp [hcellI]; omega)]
      have e4 : (h + 1) * 3 + i - (hcellI e).length = h * 3 + i := by simp [hcellI]; omega
      rw [e4, ih h (by simpa using hh)]; rfl
theorem hrow_setI (es : List (Ent Int)) (h : Nat) (e : Ent Int) (hh : h < es.length) : (((hrowI es).set (h * 3) (.int .u64 e.rk)).set (h * 3 + 1) (Value.int .i64 e.x)).set (h * 3 + 2) (.int .u64 e.tn) = hrowI (es.set h e) := by
  apply List.ext_getElem?
  intro j
  rcases Nat.lt_or_ge j (es.length * 3) with hj | hj
  · obtain ⟨q, r, rfl, hr⟩ : ∃ q r, j = q * 3 + r ∧ r < 3 := ⟨j / 3, j % 3, by omega, Nat.mod_lt _ (by omega)⟩
    have hq : q < es.length := by omega
    rw [hrow_atI (es.set h e) q r (by rw [List.length_set]; exact hq) hr]
    by_cases hqh : h = q
    · subst hqh
      have hL := hrow_lenI es
      simp only [List.getElem?_set, List.length_set, hL, List.getElem_set_self]
      match r, hr with
      | 0, _ => simp [hcellI]; omega
      | 1, _ => simp [hcellI]; omega
      | 2, _ => simp [hcellI]; omega
    · rw [List.getElem?_set_ne (by omega), List.getElem?_set_ne (by omega), List.getElem?_set_ne (by omega), hrow_atI es q r hq hr, List.getElem_set_ne hqh]
  · rw [List.getElem?_eq_none (by simp [hrow_lenI]; omega), List.getElem?_eq_none (by simp [hrow_lenI]; omega)]
/-- A heap: its room, how many were pushed, its items. -/
structure HeapAtI (w : World) (base B : Nat) (room pd : Int) (v : Value) (es : List (Ent Int)) : Prop where
  blk : w.heap[B]? = some (.cells #[.int .i64 room, .int .u64 pd, v] 125 (0, 0))
  low : base ≤ B
  own : w.ownsRow base 133 3 v es.length (hrowI es)
  r0 : 1 ≤ room
  r1 : room ≤ 4096
  le : (es.length : Int) ≤ room
theorem HeapAtI.drewN {w : World} {base B : Nat} {room pd : Int} {v : Value} {es : List (Ent Int)} (h : HeapAtI w base B room pd v es) (n : Nat) : HeapAtI (w.drewN n) base B room pd v es := ⟨h.blk, h.low, h.own, h.r0, h.r1, h.le⟩
theorem HeapAtI.cell {w : World} {base B : Nat} {room pd : Int} {v : Value} {es : List (Ent Int)} (h : HeapAtI w base B room pd v es) :
    w.cell? ⟨B, 0, none⟩ = some (.int .i64 room) ∧ w.cell? ⟨B, 1, none⟩ = some (.int .u64 pd) ∧ w.cell? ⟨B, 2, none⟩ = some v :=
  ⟨cell_of_row w B 0 _ _ (0, 0) h.blk, cell_of_row w B 1 _ _ (0, 0) h.blk, cell_of_row w B 2 _ _ (0, 0) h.blk⟩
theorem HeapAtI.ne {w : World} {base B : Nat} {room pd : Int} {v : Value} {es : List (Ent Int)} (h : HeapAtI w base B room pd v es) : v.ownBlock ≠ some B := own_ne_blk h.own h.blk (by decide)
theorem HeapAtI.entAt {w : World} {base B : Nat} {room pd : Int} {g c : Nat} {es : List (Ent Int)} (h : HeapAtI w base B room pd (.slice (some ⟨g, 0, none⟩) es.length c) es) (i : Nat) (hi : i < es.length) :
    w.cell? ⟨g, i * 3, none⟩ = some (.int .u64 (es[i]).rk) ∧ w.cell? ⟨g, i * 3 + 1, none⟩ = some (Value.int .i64 (es[i]).x) ∧ w.cell? ⟨g, i * 3 + 2, none⟩ = some (.int .u64 (es[i]).tn) := by
  have hc := fun j (hj : j < 3) => (h.own.cellAt (i * 3 + j) (by omega)).trans (hrow_atI es i j hi hj)
  exact ⟨hc 0 (by omega), hc 1 (by omega), hc 2 (by omega)⟩
theorem HeapAtI.below {w w' : World} {base B : Nat} {room pd : Int} {v : Value} {es : List (Ent Int)} (h : HeapAtI w base B room pd v es) (hb : Below w.heap.size w w') : HeapAtI w' base B room pd v es :=
  ⟨(hb.block B (Array.getElem?_eq_some_iff.1 h.blk).1).trans h.blk, h.low, World.ownsRow.kept (row := some w.heap.size) h.own ⟨hb.os, hb.tape, hb.output, hb.size, fun k hk _ => hb.block k hk⟩ (Or.inr (fun hh => by have := World.ownsRow.lt h.own _ hh; omega)), h.r0, h.r1, h.le⟩
/-- An item is put. -/
theorem HeapAtI.setEnt {w : World} {base B : Nat} {room pd : Int} {g c : Nat} {es : List (Ent Int)} (h : HeapAtI w base B room pd (.slice (some ⟨g, 0, none⟩) es.length c) es) (i : Nat) (hi : i < es.length) (e : Ent Int) :
    HeapAtI (((w.setCell ⟨g, i * 3, none⟩ (.int .u64 e.rk)).setCell ⟨g, i * 3 + 1, none⟩ (Value.int .i64 e.x)).setCell ⟨g, i * 3 + 2, none⟩ (.int .u64 e.tn)) base B room pd (.slice (some ⟨g, 0, none⟩) es.length c) (es.set i e) ∧
    Mv w (((w.setCell ⟨g, i * 3, none⟩ (.int .u64 e.rk)).setCell ⟨g, i * 3 + 1, none⟩ (Value.int .i64 e.x)).setCell ⟨g, i * 3 + 2, none⟩ (.int .u64 e.tn)) B (.slice (some ⟨g, 0, none⟩) es.length c) (.slice (some ⟨g, 0, none⟩) es.length c) := by
  have hgB : B ≠ g := fun e => h.ne (by rw [e]; rfl)
  have hst := row_put (row_put (row_put h.own (i * 3) (.int .u64 e.rk)) (i * 3 + 1) (Value.int .i64 e.x)) (i * 3 + 2) (.int .u64 e.tn)
  rw [hrow_setI es i e hi] at hst
  have hh : ∀ j, j ≠ g → (((w.setCell ⟨g, i * 3, none⟩ (.int .u64 e.rk)).setCell ⟨g, i * 3 + 1, none⟩ (Value.int .i64 e.x)).setCell ⟨g, i * 3 + 2, none⟩ (.int .u64 e.tn)).heap[j]? = w.heap[j]? := fun j hj =>
    (Below.heap_setCell _ ⟨g, _, none⟩ _ j hj).trans ((Below.heap_setCell _ ⟨g, _, none⟩ _ j hj).trans (Below.heap_setCell _ ⟨g, _, none⟩ _ j hj))
  refine ⟨⟨(hh B hgB).trans h.blk, h.low, by rw [List.length_set]; exact hst, h.r0, h.r1, by rw [List.length_set]; exact h.le⟩, ?_⟩
  exact ⟨rfl, rfl, rfl, by simp [World.setCell], fun j _ _ hj => hh j (fun e => hj (by rw [e]; rfl)), fun j hj => Or.inr hj⟩
set_option maxRecDepth 100000 in
set_option maxHeartbeats 1000000 in
theorem hcompareGI (a b : Ent Int) (w : World) :
    Calls Try.prog 75 #[haggI a, haggI b] w fun e w' => e = .returned (.int .i64 (a.cmp b)) ∧ ∃ q os, w' = { (w.drewN q) with heap := w.heap ++ os } := by
  have hr : (if cmpI a.rk b.rk = 0 then cmpI a.tn b.tn else cmpI a.rk b.rk) = a.cmp b := by
    unfold cmpI Ent.cmp
    split <;> split <;> (try split) <;> (try split) <;> omega
  obtain ⟨W1, hW⟩ : ∃ W1, (w.alloc (.cells #[.int .u64 a.rk, Value.int .i64 a.x, .int .u64 a.tn] 133)).alloc (.cells #[.int .u64 b.rk, Value.int .i64 b.x, .int .u64 b.tn] 133) = W1 := ⟨_, rfl⟩
  have hs : W1.heap.size = w.heap.size + 1 + 1 := by rw [← hW]; simp
  have hB1 : Below w.heap.size w W1 := by rw [← hW]; exact ((Below.refl _ w).alloc (Nat.le_refl _) _).alloc (by simp) _
  have k1 : W1.cell? ⟨w.heap.size, 0, none⟩ = some (.int .u64 a.rk) := by rw [← hW]; simp [go_sem]
  have k2 : W1.cell? ⟨w.heap.size, 2, none⟩ = some (.int .u64 a.tn) := by rw [← hW]; simp [go_sem]
  have k3 : W1.cell? ⟨w.heap.size + 1, 0, none⟩ = some (.int .u64 b.rk) := by rw [← hW]; simp [go_sem]
  have k4 : W1.cell? ⟨w.heap.size + 1, 2, none⟩ = some (.int .u64 b.tn) := by rw [← hW]; simp [go_sem]
  have OR := Lib.hid (or_two (cmpI a.rk b.rk) (cmpI a.tn b.tn) W1.heap.size (W1.alloc (.cells #[.int .i64 (cmpI a.rk b.rk), .int .i64 (cmpI a.tn b.tn)] 3)).drew ((World.cell?_alloc_mark W1 #[.int .i64 (cmpI a.rk b.rk), .int .i64 (cmpI a.tn b.tn)] 3 (0, 0) 0).trans rfl) ((World.cell?_alloc_mark W1 #[.int .i64 (cmpI a.rk b.rk), .int .i64 (cmpI a.tn b.tn)] 3 (0, 0) 1).trans rfl))
  simp only [hr, hs] at OR
  unfold haggI
  clear hr
  have C1 := Lib.hid (fun w => compare_u64 a.rk b.rk w)
  have C2 := Lib.hid (fun w => compare_u64 a.tn b.tn w)
  generalize a.cmp b = r at *
  generalize cmpI a.rk b.rk = c1 at *
  generalize cmpI a.tn b.tn = c2 at *
  generalize a.rk = ark at *
  generalize a.tn = atn at *
  generalize a.x = ax at *
  generalize b.rk = brk at *
  generalize b.tn = btn at *
  generalize b.x = bx at *
  clear a b
  go_enter Try.func75, Try.ntmps75
  go_wp2
  refine wp_region_still_tail 12 (by kernel_rfl) (by kernel_rfl) ?_
  simp only [List.take_succ_cons, List.take_zero, List.drop_succ_cons, List.drop_zero]
  have HW := Lib.hid hW
  clear hW
  repeat still_step
  still_call (C1.out _)
  repeat still_step
  still_call (C2.out _)
  refine wpStill_nil ?_
  change wpList _ _ _ _ _ W1.drew
  go_wp2_with (go_at_call 107; refine OR.out.mono ?_; rintro e w' ⟨rfl, rfl⟩)
  go_ret
  refine ⟨rfl, 1, (#[.cells #[.int .u64 ark, Value.int .i64 ax, .int .u64 atn] 133] ++ #[.cells #[.int .u64 brk, Value.int .i64 bx, .int .u64 btn] 133]) ++ #[.cells #[.int .i64 c1, .int .i64 c2] 3], ?_⟩
  rw [← HW.out]
  show ({ w with heap := ((w.heap.push _).push _).push _, drawn := w.drawn + 1 } : World) = { w with heap := w.heap ++ (#[_] ++ #[_] ++ #[_]), drawn := w.drawn + 1 }
  rw [← Array.append_assoc, ← Array.append_assoc, Array.append_singleton, Array.append_singleton, Array.append_singleton]
theorem hcompareI (a b : Ent Int) (w : World) :
    Calls Try.prog 75 #[haggI a, haggI b] w fun e w' => e = .returned (.int .i64 (a.cmp b)) ∧ Below w.heap.size w w' := by
  refine (hcompareGI a b w).mono ?_
  rintro e w' ⟨rfl, q, os, rfl⟩
  exact ⟨rfl, rfl, rfl, rfl, by simp, fun j hj => by simp [Array.getElem?_append, hj]⟩
end Go.Proofs.Ytkgiaijcgblpbaa
