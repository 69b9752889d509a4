/-
  Package heappifo for elements of type string: how a heap stands in memory; which of two items is ahead. What lay below the heap's end stands. No condition but that the heap is one that New made.
-/
import Derived.Test.YtkgiaijcgblpbaaRows
import Derived.Test.YtkgiaijcgblpbaaBase
import Derived.Test.YtkgiaijcgblpbaaRingMv
import Derived.Test.YtkgiaijcgblpbaaHeapMath
import Derived.Test.YtkgiaijcgblpbaaPoolMath
import Derived.Test.YtkgiaijcgblpbaaCmp
import Derived.Deep.AppendLies
import Derived.Outline
import Derived.BigRegion
import Derived.Deep.RegionWith
import Derived.Deep.RegionHeld3
import Derived.StillTailTactics
namespace Go.Proofs.Ytkgiaijcgblpbaa
set_option linter.unusedVariables false
set_option linter.unusedSimpArgs false
open Go.ChangeShapes Go.WideShapes Go.ChangeAt Go.RowKit
attribute [local go_sem] alloc_drewN setCell_drewN

def hcellT (e : Ent ByteArray) : List Value := [.int .u64 e.rk, Value.string e.x, .int .u64 e.tn]
def haggT (e : Ent ByteArray) : Value := .agg #[.int .u64 e.rk, Value.string e.x, .int .u64 e.tn]
def hrowT (es : List (Ent ByteArray)) : List Value := es.flatMap hcellT
theorem hrow_lenT (es : List (Ent ByteArray)) : (hrowT es).length = es.length * 3 := by
  induction es with
  | nil => rfl
  | cons e es ih =>
    show (hcellT e ++ hrowT es).length = _
    rw [List.length_append, ih, List.length_cons]
    show 3 + _ = _
    omega
theorem hrow_atT (es : List (Ent ByteArray)) (h i : Nat) (hh : h < es.length) (hi : i < 3) : (hrowT es)[h * 3 + i]? = (hcellT es[h])[i]? := by
  induction es generalizing h with
  | nil => exact absurd hh (Nat.not_lt_zero _)
  | cons e es ih =>
    show (hcellT e ++ hrowT es)[h * 3 + i]? = _
    cases h with
    | zero => rw [Nat.zero_mul, Nat.zero_add, List.getElem?_append_left (by simpa [hcellT] using hi)]; rfl
    | succ h =>
      rw [List.getElem?_append_right (by simp [hcellT]; omega)]
      have e4 : (h + 1) * 3 + i - (hcellT e).length = h * 3 + i := by simp [hcellT]; omega
      rw [e4, ih h (by simpa using hh)]; rfl
theorem hrow_setT (es : List (Ent ByteArray)) (h : Nat) (e : Ent ByteArray) (hh : h < es.length) : (((hrowT es).set (h * 3) (.int .u64 e.rk)).set (h * 3 + 1) (Value.string e.x)).set (h * 3 + 2) (.int .u64 e.tn) = hrowT (es.set h e) := by
  apply List.ext_getElem?
  intro j
  rcases Nat.lt_or_ge j (es.length * 3) with hj | hj
  · obtain ⟨q, r, rfl, hr⟩ : ∃ q r, j = q * 3 + r ∧ r < 3 := ⟨j / 3, j % 3, by omega, Nat.mod_lt _ (by omega)⟩
    have hq : q < es.length := by omega
    rw [hrow_atT (es.set h e) q r (by rw [List.length_set]; exact hq) hr]
    by_cases hqh : h = q
    · subst hqh
      have hL := hrow_lenT es
      simp only [List.getElem?_set, List.length_set, hL, List.getElem_set_self]
      match r, hr with
      | 0, _ => simp [hcellT]; omega
      | 1, _ => simp [hcellT]; omega
      | 2, _ => simp [hcellT]; omega
    · rw [List.getElem?_set_ne (by omega), List.getElem?_set_ne (by omega), List.getElem?_set_ne (by omega), hrow_atT es q r hq hr, List.getElem_set_ne hqh]
  · rw [List.getElem?_eq_none (by simp [hrow_lenT]; omega), List.getElem?_eq_none (by simp [hrow_lenT]; omega)]
/-- A heap: its room, how many were pushed, its items. -/
structure HeapAtT (w : World) (base B : Nat) (room pd : Int) (v : Value) (es : List (Ent ByteArray)) : Prop where
  blk : w.heap[B]? = some (.cells #[.int .i64 room, .int .u64 pd, v] 167 (0, 0))
  low : base ≤ B
  own : w.ownsRow base 171 3 v es.length (hrowT es)
  r0 : 1 ≤ room
  r1 : room ≤ 4096
  le : (es.length : Int) ≤ room
theorem HeapAtT.drewN {w : World} {base B : Nat} {room pd : Int} {v : Value} {es : List (Ent ByteArray)} (h : HeapAtT w base B room pd v es) (n : Nat) : HeapAtT (w.drewN n) base B room pd v es := ⟨h.blk, h.low, h.own, h.r0, h.r1, h.le⟩
theorem HeapAtT.cell {w : World} {base B : Nat} {room pd : Int} {v : Value} {es : List (Ent ByteArray)} (h : HeapAtT w base B room pd v es) :
    w.cell? ⟨B, 0, none⟩ = some (.int .i64 room) ∧ w.cell? ⟨B, 1, none⟩ = some (.int .u64 pd) ∧ w.cell? ⟨B, 2, none⟩ = some v :=
  ⟨cell_of_row w B 0 _ _ (0, 0) h.blk, cell_of_row w B 1 _ _ (0, 0) h.blk, cell_of_row w B 2 _ _ (0, 0) h.blk⟩
theorem HeapAtT.ne {w : World} {base B : Nat} {room pd : Int} {v : Value} {es : List (Ent ByteArray)} (h : HeapAtT w base B room pd v es) : v.ownBlock ≠ some B := own_ne_blk h.own h.blk (by decide)
theorem HeapAtT.entAt {w : World} {base B : Nat} {room pd : Int} {g c : Nat} {es : List (Ent ByteArray)} (h : HeapAtT w base B room pd (.slice (some ⟨g, 0, none⟩) es.length c) es) (i : Nat) (hi : i < es.length) :
    w.cell? ⟨g, i * 3, none⟩ = some (.int .u64 (es[i]).rk) ∧ w.cell? ⟨g, i * 3 + 1, none⟩ = some (Value.string (es[i]).x) ∧ w.cell? ⟨g, i * 3 + 2, none⟩ = some (.int .u64 (es[i]).tn) := by
  have hc := fun j (hj : j < 3) => (h.own.cellAt (i * 3 + j) (by omega)).trans (hrow_atT es i j hi hj)
  exact ⟨hc 0 (by omega), hc 1 (by omega), hc 2 (by omega)⟩
theorem HeapAtT.below {w w' : World} {base B : Nat} {room pd : Int} {v : Value} {es : List (Ent ByteArray)} (h : HeapAtT w base B room pd v es) (hb : Below w.heap.size w w') : HeapAtT w' base B room pd v es :=
  ⟨(hb.block B (Array.getElem?_eq_some_iff.1 h.blk).1).trans h.blk, h.low, World.ownsRow.kept (row := some w.heap.size) h.own ⟨hb.os, hb.tape, hb.output, hb.size, fun k hk _ => hb.block k hk⟩ (Or.inr (fun hh => by have := World.ownsRow.lt h.own _ hh; omega)), h.r0, h.r1, h.le⟩
/-- An item is put. -/
theorem HeapAtT.setEnt {w : World} {base B : Nat} {room pd : Int} {g c : Nat} {es : List (Ent ByteArray)} (h : HeapAtT w base B room pd (.slice (some ⟨g, 0, none⟩) es.length c) es) (i : Nat) (hi : i < es.length) (e : Ent ByteArray) :
    HeapAtT (((w.setCell ⟨g, i * 3, none⟩ (.int .u64 e.rk)).setCell ⟨g, i * 3 + 1, none⟩ (Value.string e.x)).setCell ⟨g, i * 3 + 2, none⟩ (.int .u64 e.tn)) base B room pd (.slice (some ⟨g, 0, none⟩) es.length c) (es.set i e) ∧
    Mv w (((w.setCell ⟨g, i * 3, none⟩ (.int .u64 e.rk)).setCell ⟨g, i * 3 + 1, none⟩ (Value.string e.x)).setCell ⟨g, i * 3 + 2, none⟩ (.int .u64 e.tn)) B (.slice (some ⟨g, 0, none⟩) es.length c) (.slice (some ⟨g, 0, none⟩) es.length c) := by
  have hgB : B ≠ g := fun e => h.ne (by rw [e]; rfl)
  have hst := row_put (row_put (row_put h.own (i * 3) (.int .u64 e.rk)) (i * 3 + 1) (Value.string e.x)) (i * 3 + 2) (.int .u64 e.tn)
  rw [hrow_setT es i e hi] at hst
  have hh : ∀ j, j ≠ g → (((w.setCell ⟨g, i * 3, none⟩ (.int .u64 e.rk)).setCell ⟨g, i * 3 + 1, none⟩ (Value.string e.x)).setCell ⟨g, i * 3 + 2, none⟩ (.int .u64 e.tn)).heap[j]? = w.heap[j]? := fun j hj =>
    (Below.heap_setCell _ ⟨g, _, none⟩ _ j hj).trans ((Below.heap_setCell _ ⟨g, _, none⟩ _ j hj).trans (Below.heap_setCell _ ⟨g, _, none⟩ _ j hj))
  refine ⟨⟨(hh B hgB).trans h.blk, h.low, by rw [List.length_set]; exact hst, h.r0, h.r1, by rw [List.length_set]; exact h.le⟩, ?_⟩
  exact ⟨rfl, rfl, rfl, by simp [World.setCell], fun j _ _ hj => hh j (fun e => hj (by rw [e]; rfl)), fun j hj => Or.inr hj⟩
set_option maxRecDepth 100000 in
set_option maxHeartbeats 1000000 in
theorem hcompareGT (a b : Ent ByteArray) (w : World) :
    Calls Try.prog 139 #[haggT a, haggT b] w fun e w' => e = .returned (.int .i64 (a.cmp b)) ∧ ∃ q os, w' = { (w.drewN q) with heap := w.heap ++ os } := by
  have hr : (if cmpI a.rk b.rk = 0 then cmpI a.tn b.tn else cmpI a.rk b.rk) = a.cmp b := by
    unfold cmpI Ent.cmp
    split <;> split <;> (try split) <;> (try split) <;> omega
  obtain ⟨W1, hW⟩ : ∃ W1, (w.alloc (.cells #[.int .u64 a.rk, Value.string a.x, .int .u64 a.tn] 171)).alloc (.cells #[.int .u64 b.rk, Value.string b.x, .int .u64 b.tn] 171) = W1 := ⟨_, rfl⟩
  have hs : W1.heap.size = w.heap.size + 1 + 1 := by rw [← hW]; simp
  have hB1 : Below w.heap.size w W1 := by rw [← hW]; exact ((Below.refl _ w).alloc (Nat.le_refl _) _).alloc (by simp) _
  have k1 : W1.cell? ⟨w.heap.size, 0, none⟩ = some (.int .u64 a.rk) := by rw [← hW]; simp [go_sem]
  have k2 : W1.cell? ⟨w.heap.size, 2, none⟩ = some (.int .u64 a.tn) := by rw [← hW]; simp [go_sem]
  have k3 : W1.cell? ⟨w.heap.size + 1, 0, none⟩ = some (.int .u64 b.rk) := by rw [← hW]; simp [go_sem]
  have k4 : W1.cell? ⟨w.heap.size + 1, 2, none⟩ = some (.int .u64 b.tn) := by rw [← hW]; simp [go_sem]
  have OR := Lib.hid (or_two (cmpI a.rk b.rk) (cmpI a.tn b.tn) W1.heap.size (W1.alloc (.cells #[.int .i64 (cmpI a.rk b.rk), .int .i64 (cmpI a.tn b.tn)] 3)).drew ((World.cell?_alloc_mark W1 #[.int .i64 (cmpI a.rk b.rk), .int .i64 (cmpI a.tn b.tn)] 3 (0, 0) 0).trans rfl) ((World.cell?_alloc_mark W1 #[.int .i64 (cmpI a.rk b.rk), .int .i64 (cmpI a.tn b.tn)] 3 (0, 0) 1).trans rfl))
  simp only [hr, hs] at OR
  unfold haggT
  clear hr
  have C1 := Lib.hid (fun w => compare_u64 a.rk b.rk w)
  have C2 := Lib.hid (fun w => compare_u64 a.tn b.tn w)
  generalize a.cmp b = r at *
  generalize cmpI a.rk b.rk = c1 at *
  generalize cmpI a.tn b.tn = c2 at *
  generalize a.rk = ark at *
  generalize a.tn = atn at *
  generalize a.x = ax at *
  generalize b.rk = brk at *
  generalize b.tn = btn at *
  generalize b.x = bx at *
  clear a b
  go_enter Try.func139, Try.ntmps139
  go_wp2
  refine wp_region_still_tail 12 (by kernel_rfl) (by kernel_rfl) ?_
  simp only [List.take_succ_cons, List.take_zero, List.drop_succ_cons, List.drop_zero]
  have HW := Lib.hid hW
  clear hW
  repeat still_step
  still_call (C1.out _)
  repeat still_step
  still_call (C2.out _)
  refine wpStill_nil ?_
  change wpList _ _ _ _ _ W1.drew
  go_wp2_with (go_at_call 107; refine OR.out.mono ?_; rintro e w' ⟨rfl, rfl⟩)
  go_ret
  refine ⟨rfl, 1, (#[.cells #[.int .u64 ark, Value.string ax, .int .u64 atn] 171] ++ #[.cells #[.int .u64 brk, Value.string bx, .int .u64 btn] 171]) ++ #[.cells #[.int .i64 c1, .int .i64 c2] 3], ?_⟩
  rw [← HW.out]
  show ({ w with heap := ((w.heap.push _).push _).push _, drawn := w.drawn + 1 } : World) = { w with heap := w.heap ++ (#[_] ++ #[_] ++ #[_]), drawn := w.drawn + 1 }
  rw [← Array.append_assoc, ← Array.append_assoc, Array.append_singleton, Array.append_singleton, Array.append_singleton]
theorem hcompareT (a b : Ent ByteArray) (w : World) :
    Calls Try.prog 139 #[haggT a, haggT b] w fun e w' => e = .returned (.int .i64 (a.cmp b)) ∧ Below w.heap.size w w' := by
  refine (hcompareGT a b w).mono ?_
  rintro e w' ⟨rfl, q, os, rfl⟩
  exact ⟨rfl, rfl, rfl, rfl, by simp, fun j hj => by simp [Array.getElem?_append, hj]⟩
end Go.Proofs.Ytkgiaijcgblpbaa
