/-
  Package twin for elements of type int: how a heap stands in memory; which of two items is ahead. What lay below the heap's end stands. No condition but that the heap is one that New made.
-/
import Derived.Test.YtiijlfpkninmgaaRows
import Derived.Test.YtiijlfpkninmgaaBase
import Derived.Test.YtiijlfpkninmgaaRingMv
import Derived.Test.YtiijlfpkninmgaaTwinMath
import Derived.Test.YtiijlfpkninmgaaPoolMath
import Derived.Test.YtiijlfpkninmgaaCmp
import Derived.Deep.AppendLies
import Derived.Outline
import Derived.BigRegion
import Derived.Deep.RegionWith
import Derived.Deep.RegionHeld3
import Derived.StillTailTactics
namespace Go.Proofs.Ytiijlfpkninmgaa
set_option linter.unusedVariables false
set_option linter.unusedSimpArgs false
open Go.ChangeShapes Go.WideShapes Go.ChangeAt Go.RowKit
attribute [local go_sem] alloc_drewN setCell_drewN

def tcellI (e : Ent Int) : List Value := [.int .u64 e.rk, .int .u64 e.tn, Value.int .i64 e.x]
def taggI (e : Ent Int) : Value := .agg #[.int .u64 e.rk, .int .u64 e.tn, Value.int .i64 e.x]
def trowI (es : List (Ent Int)) : List Value := es.flatMap tcellI
theorem trow_lenI (es : List (Ent Int)) : (trowI es).length = es.length * 3 := by
  induction es with
  | nil => rfl
  | cons e es ih =>
    show (tcellI e ++ trowI es).length = _
    rw [List.length_append, ih, List.length_cons]
    show 3 + _ = _
    omega
theorem trow_atI (es : List (Ent Int)) (h i : Nat) (hh : h < es.length) (hi : i < 3) : (trowI es)[h * 3 + i]? = (tcellI es[h])[i]? := by
  induction es generalizing h with
  | nil => exact absurd hh (Nat.not_lt_zero _)
  | cons e es ih =>
    show (tcellI e ++ trowI es)[h * 3 + i]? = _
    cases h with
    | zero => rw [Nat.zero_mul, Nat.zero_add, List.getElem?_append_left (by simpa [tcellI] using hi)]; rfl
    | succ h =>
      rw [List.getElem?_append_right (by simp [tcellI]; omega)]
      have e4 : (h + 1) * 3 + i - (tcellI e).length = h * 3 + i := by simp [tcellI]; omega
      rw [e4, ih h (by simpa using hh)]; rfl
theorem trow_setI (es : List (Ent Int)) (h : Nat) (e : Ent Int) (hh : h < es.length) : (((trowI es).set (h * 3) (.int .u64 e.rk)).set (h * 3 + 1) (.int .u64 e.tn)).set (h * 3 + 2) (Value.int .i64 e.x) = trowI (es.set h e) := by
  apply List.ext_getElem?
  intro j
  rcases Nat.lt_or_ge j (es.length * 3) with hj | hj
  · obtain ⟨q, r, rfl, hr⟩ : ∃ q r, j = q * 3 + r ∧ r < 3 := ⟨j / 3, j % 3, by omega, Nat.mod_lt _ (by omega)⟩
    have hq : q < es.length := by omega
    rw [trow_atI (es.set h e) q r (by rw [List.length_set]; exact hq) hr]
    by_cases hqh : h = q
    · subst hqh
      have hL := trow_lenI es
      simp only [List.getElem?_set, List.length_set, hL, List.getElem_set_self]
      match r, hr with
      | 0, _ => simp [tcellI]; omega
      | 1, _ => simp [tcellI]; omega
      | 2, _ => simp [tcellI]; omega
    · rw [List.getElem?_set_ne (by omega), List.getElem?_set_ne (by omega), List.getElem?_set_ne (by omega), trow_atI es q r hq hr, List.getElem_set_ne hqh]
  · rw [List.getElem?_eq_none (by simp [trow_lenI]; omega), List.getElem?_eq_none (by simp [trow_lenI]; omega)]
/-- A heap: its room, how many were pushed, its items. -/
structure TwinAtI (w : World) (base B : Nat) (room pd : Int) (v : Value) (es : List (Ent Int)) : Prop where
  blk : w.heap[B]? = some (.cells #[.int .i64 room, .int .u64 pd, v] 129 (0, 0))
  low : base ≤ B
  own : w.ownsRow base 139 3 v es.length (trowI es)
  r0 : 1 ≤ room
  r1 : room ≤ 4096
  le : (es.length : Int) ≤ room
theorem TwinAtI.drewN {w : World} {base B : Nat} {room pd : Int} {v : Value} {es : List (Ent Int)} (h : TwinAtI w base B room pd v es) (n : Nat) : TwinAtI (w.drewN n) base B room pd v es := ⟨h.blk, h.low, h.own, h.r0, h.r1, h.le⟩
theorem TwinAtI.cell {w : World} {base B : Nat} {room pd : Int} {v : Value} {es : List (Ent Int)} (h : TwinAtI w base B room pd v es) :
    w.cell? ⟨B, 0, none⟩ = some (.int .i64 room) ∧ w.cell? ⟨B, 1, none⟩ = some (.int .u64 pd) ∧ w.cell? ⟨B, 2, none⟩ = some v :=
  ⟨cell_of_row w B 0 _ _ (0, 0) h.blk, cell_of_row w B 1 _ _ (0, 0) h.blk, cell_of_row w B 2 _ _ (0, 0) h.blk⟩
theorem TwinAtI.ne {w : World} {base B : Nat} {room pd : Int} {v : Value} {es : List (Ent Int)} (h : TwinAtI w base B room pd v es) : v.ownBlock ≠ some B := own_ne_blk h.own h.blk (by decide)
theorem TwinAtI.entAt {w : World} {base B : Nat} {room pd : Int} {g c : Nat} {es : List (Ent Int)} (h : TwinAtI w base B room pd (.slice (some ⟨g, 0, none⟩) es.length c) es) (i : Nat) (hi : i < es.length) :
    w.cell? ⟨g, i * 3, none⟩ = some (.int .u64 (es[i]).rk) ∧ w.cell? ⟨g, i * 3 + 1, none⟩ = some (.int .u64 (es[i]).tn) ∧ w.cell? ⟨g, i * 3 + 2, none⟩ = some (Value.int .i64 (es[i]).x) := by
  have hc := fun j (hj : j < 3) => (h.own.cellAt (i * 3 + j) (by omega)).trans (trow_atI es i j hi hj)
  exact ⟨hc 0 (by omega), hc 1 (by omega), hc 2 (by omega)⟩
theorem TwinAtI.below {w w' : World} {base B : Nat} {room pd : Int} {v : Value} {es : List (Ent Int)} (h : TwinAtI w base B room pd v es) (hb : Below w.heap.size w w') : TwinAtI w' base B room pd v es :=
  ⟨(hb.block B (Array.getElem?_eq_some_iff.1 h.blk).1).trans h.blk, h.low, World.ownsRow.kept (row := some w.heap.size) h.own ⟨hb.os, hb.tape, hb.output, hb.size, fun k hk _ => hb.block k hk⟩ (Or.inr (fun hh => by have := World.ownsRow.lt h.own _ hh; omega)), h.r0, h.r1, h.le⟩
/-- An item is put. -/
theorem TwinAtI.setEnt {w : World} {base B : Nat} {room pd : Int} {g c : Nat} {es : List (Ent Int)} (h : TwinAtI w base B room pd (.slice (some ⟨g, 0, none⟩) es.length c) es) (i : Nat) (hi : i < es.length) (e : Ent Int) :
    TwinAtI (((w.setCell ⟨g, i * 3, none⟩ (.int .u64 e.rk)).setCell ⟨g, i * 3 + 1, none⟩ (.int .u64 e.tn)).setCell ⟨g, i * 3 + 2, none⟩ (Value.int .i64 e.x)) base B room pd (.slice (some ⟨g, 0, none⟩) es.length c) (es.set i e) ∧
    Mv w (((w.setCell ⟨g, i * 3, none⟩ (.int .u64 e.rk)).setCell ⟨g, i * 3 + 1, none⟩ (.int .u64 e.tn)).setCell ⟨g, i * 3 + 2, none⟩ (Value.int .i64 e.x)) B (.slice (some ⟨g, 0, none⟩) es.length c) (.slice (some ⟨g, 0, none⟩) es.length c) := by
  have hgB : B ≠ g := fun e => h.ne (by rw [e]; rfl)
  have hst := row_put (row_put (row_put h.own (i * 3) (.int .u64 e.rk)) (i * 3 + 1) (.int .u64 e.tn)) (i * 3 + 2) (Value.int .i64 e.x)
  rw [trow_setI es i e hi] at hst
  have hh : ∀ j, j ≠ g → (((w.setCell ⟨g, i * 3, none⟩ (.int .u64 e.rk)).setCell ⟨g, i * 3 + 1, none⟩ (.int .u64 e.tn)).setCell ⟨g, i * 3 + 2, none⟩ (Value.int .i64 e.x)).heap[j]? = w.heap[j]? := fun j hj =>
    (Below.heap_setCell _ ⟨g, _, none⟩ _ j hj).trans ((Below.heap_setCell _ ⟨g, _, none⟩ _ j hj).trans (Below.heap_setCell _ ⟨g, _, none⟩ _ j hj))
  refine ⟨⟨(hh B hgB).trans h.blk, h.low, by rw [List.length_set]; exact hst, h.r0, h.r1, by rw [List.length_set]; exact h.le⟩, ?_⟩
  exact ⟨rfl, rfl, rfl, by simp [World.setCell], fun j _ _ hj => hh j (fun e => hj (by rw [e]; rfl)), fun j hj => Or.inr hj⟩
set_option maxRecDepth 100000 in
set_option maxHeartbeats 1000000 in
theorem tcompareI (a b : Ent Int) (w : World) :
    Calls Try.prog 123 #[taggI a, taggI b] w fun e w' => e = .returned (.int .i64 (a.cmp b)) ∧ Below w.heap.size w w' := by
  have hr : (if cmpI a.rk b.rk = 0 then cmpI a.tn b.tn else cmpI a.rk b.rk) = a.cmp b := by
    unfold cmpI Ent.cmp
    split <;> split <;> (try split) <;> (try split) <;> omega
  obtain ⟨W1, hW⟩ : ∃ W1, (w.alloc (.cells #[.int .u64 a.rk, .int .u64 a.tn, Value.int .i64 a.x] 139)).alloc (.cells #[.int .u64 b.rk, .int .u64 b.tn, Value.int .i64 b.x] 139) = W1 := ⟨_, rfl⟩
  have hs : W1.heap.size = w.heap.size + 1 + 1 := by rw [← hW]; simp
  have hB1 : Below w.heap.size w W1 := by rw [← hW]; exact ((Below.refl _ w).alloc (Nat.le_refl _) _).alloc (by simp) _
  have k1 : W1.cell? ⟨w.heap.size, 0, none⟩ = some (.int .u64 a.rk) := by rw [← hW]; simp [go_sem]
  have k2 : W1.cell? ⟨w.heap.size, 1, none⟩ = some (.int .u64 a.tn) := by rw [← hW]; simp [go_sem]
  have k3 : W1.cell? ⟨w.heap.size + 1, 0, none⟩ = some (.int .u64 b.rk) := by rw [← hW]; simp [go_sem]
  have k4 : W1.cell? ⟨w.heap.size + 1, 1, none⟩ = some (.int .u64 b.tn) := by rw [← hW]; simp [go_sem]
  have OR := Lib.hid (or_two (cmpI a.rk b.rk) (cmpI a.tn b.tn) W1.heap.size (W1.alloc (.cells #[.int .i64 (cmpI a.rk b.rk), .int .i64 (cmpI a.tn b.tn)] 3)).drew ((World.cell?_alloc_mark W1 #[.int .i64 (cmpI a.rk b.rk), .int .i64 (cmpI a.tn b.tn)] 3 (0, 0) 0).trans rfl) ((World.cell?_alloc_mark W1 #[.int .i64 (cmpI a.rk b.rk), .int .i64 (cmpI a.tn b.tn)] 3 (0, 0) 1).trans rfl))
  simp only [hr, hs] at OR
  unfold taggI
  clear hr
  have C1 := Lib.hid (fun w => compare_u64 a.rk b.rk w)
  have C2 := Lib.hid (fun w => compare_u64 a.tn b.tn w)
  generalize a.cmp b = r at *
  generalize cmpI a.rk b.rk = c1 at *
  generalize cmpI a.tn b.tn = c2 at *
  generalize a.rk = ark at *
  generalize a.tn = atn at *
  generalize a.x = ax at *
  generalize b.rk = brk at *
  generalize b.tn = btn at *
  generalize b.x = bx at *
  clear a b
  go_enter Try.func123, Try.ntmps123
  go_wp2
  refine wp_region_still_tail 10 (by kernel_rfl) (by kernel_rfl) ?_
  simp only [List.take_succ_cons, List.take_zero, List.drop_succ_cons, List.drop_zero]
  clear hW
  repeat still_step
  still_call (C1.out _)
  repeat still_step
  still_call (C2.out _)
  refine wpStill_nil ?_
  change wpList _ _ _ _ _ W1.drew
  go_wp2_with (go_at_call 94; refine OR.out.mono ?_; rintro e w' ⟨rfl, rfl⟩)
  go_ret
  exact ⟨rfl, (hB1.alloc (by omega) _).drew⟩
end Go.Proofs.Ytiijlfpkninmgaa
