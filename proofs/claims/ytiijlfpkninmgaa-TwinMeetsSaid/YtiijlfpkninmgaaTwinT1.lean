/-
  Package twin for elements of type string: how a heap stands in memory; which of two items is ahead. What lay below the heap's end stands. No condition but that the heap is one that New made.
-/
import Derived.Test.YtiijlfpkninmgaaRows
import Derived.Test.YtiijlfpkninmgaaBase
import Derived.Test.YtiijlfpkninmgaaRingMv
import Derived.Test.YtiijlfpkninmgaaTwinMath
import Derived.Test.YtiijlfpkninmgaaPoolMath
import Derived.Test.YtiijlfpkninmgaaCmp
import Derived.Deep.AppendLies
import Derived.Outline
import Derived.BigRegion
import Derived.Deep.RegionWith
import Derived.Deep.RegionHeld3
import Derived.StillTailTactics
namespace Go.Proofs.Ytiijlfpkninmgaa
set_option linter.unusedVariables false
set_option linter.unusedSimpArgs false
open Go.ChangeShapes Go.WideShapes Go.ChangeAt Go.RowKit
attribute [local go_sem] alloc_drewN setCell_drewN

def tcellT (e : Ent ByteArray) : List Value := [.int .u64 e.rk, .int .u64 e.tn, Value.string e.x]
def taggT (e : Ent ByteArray) : Value := .agg #[.int .u64 e.rk, .int .u64 e.tn, Value.string e.x]
def trowT (es : List (Ent ByteArray)) : List Value := es.flatMap tcellT
theorem trow_lenT (es : List (Ent ByteArray)) : (trowT es).length = es.length * 3 := by
  induction es with
  | nil => rfl
  | cons e es ih =>
    show (tcellT e ++ trowT es).length = _
    rw [List.length_append, ih, List.length_cons]
    show 3 + _ = _
    omega
theorem trow_atT (es : List (Ent ByteArray)) (h i : Nat) (hh : h < es.length) (hi : i < 3) : (trowT es)[h * 3 + i]? = (tcellT es[h])[i]? := by
  induction es generalizing h with
  | nil => exact absurd hh (Nat.not_lt_zero _)
  | cons e es ih =>
    show (tcellT e ++ trowT es)[h * 3 + i]? = _
    cases h with
    | zero => rw [Nat.zero_mul, Nat.zero_add, List.getElem?_append_left (by simpa [tcellT] using hi)]; rfl
    | succ h =>
      rw [List.getElem?_append_right (by simp [tcellT]; omega)]
      have e4 : (h + 1) * 3 + i - (tcellT e).length = h * 3 + i := by simp [tcellT]; omega
      rw [e4, ih h (by simpa using hh)]; rfl
theorem trow_setT (es : List (Ent ByteArray)) (h : Nat) (e : Ent ByteArray) (hh : h < es.length) : (((trowT es).set (h * 3) (.int .u64 e.rk)).set (h * 3 + 1) (.int .u64 e.tn)).set (h * 3 + 2) (Value.string e.x) = trowT (es.set h e) := by
  apply List.ext_getElem?
  intro j
  rcases Nat.lt_or_ge j (es.length * 3) with hj | hj
  · obtain ⟨q, r, rfl, hr⟩ : ∃ q r, j = q * 3 + r ∧ r < 3 := ⟨j / 3, j % 3, by omega, Nat.mod_lt _ (by omega)⟩
    have hq : q < es.length := by omega
    rw [trow_atT (es.set h e) q r (by rw [List.length_set]; exact hq) hr]
    by_cases hqh : h = q
    · subst hqh
      have hL := trow_lenT es
      simp only [List.getElem?_set, List.length_set, hL, List.getElem_set_self]
      match r, hr with
      | 0, _ => simp [tcellT]; omega
      | 1, _ => simp [tcellT]; omega
      | 2, _ => simp [tcellT]; omega
    · rw [List.getElem?_set_ne (by omega), List.getElem?_set_ne (by omega), List.getElem?_set_ne (by omega), trow_atT es q r hq hr, List.getElem_set_ne hqh]
  · rw [List.getElem?_eq_none (by simp [trow_lenT]; omega), List.getElem?_eq_none (by simp [trow_lenT]; omega)]
/-- A heap: its room, how many were pushed, its items. -/
structure TwinAtT (w : World) (base B : Nat) (room pd : Int) (v : Value) (es : List (Ent ByteArray)) : Prop where
  blk : w.heap[B]? = some (.cells #[.int .i64 room, .int .u64 pd, v] 160 (0, 0))
  low : base ≤ B
  own : w.ownsRow base 162 3 v es.length (trowT es)
  r0 : 1 ≤ room
  r1 : room ≤ 4096
  le : (es.length : Int) ≤ room
theorem TwinAtT.drewN {w : World} {base B : Nat} {room pd : Int} {v : Value} {es : List (Ent ByteArray)} (h : TwinAtT w base B room pd v es) (n : Nat) : TwinAtT (w.drewN n) base B room pd v es := ⟨h.blk, h.low, h.own, h.r0, h.r1, h.le⟩
theorem TwinAtT.cell {w : World} {base B : Nat} {room pd : Int} {v : Value} {es : List (Ent ByteArray)} (h : TwinAtT w base B room pd v es) :
    w.cell? ⟨B, 0, none⟩ = some (.int .i64 room) ∧ w.cell? ⟨B, 1, none⟩ = some (.int .u64 pd) ∧ w.cell? ⟨B, 2, none⟩ = some v :=
  ⟨cell_of_row w B 0 _ _ (0, 0) h.blk, cell_of_row w B 1 _ _ (0, 0) h.blk, cell_of_row w B 2 _ _ (0, 0) h.blk⟩
theorem TwinAtT.ne {w : World} {base B : Nat} {room pd : Int} {v : Value} {es : List (Ent ByteArray)} (h : TwinAtT w base B room pd v es) : v.ownBlock ≠ some B := own_ne_blk h.own h.blk (by decide)
theorem TwinAtT.entAt {w : World} {base B : Nat} {room pd : Int} {g c : Nat} {es : List (Ent ByteArray)} (h : TwinAtT w base B room pd (.slice (some ⟨g, 0, none⟩) es.length c) es) (i : Nat) (hi : i < es.length) :
    w.cell? ⟨g, i * 3, none⟩ = some (.int .u64 (es[i]).rk) ∧ w.cell? ⟨g, i * 3 + 1, none⟩ = some (.int .u64 (es[i]).tn) ∧ w.cell? ⟨g, i * 3 + 2, none⟩ = some (Value.string (es[i]).x) := by
  have hc := fun j (hj : j < 3) => (h.own.cellAt (i * 3 + j) (by omega)).trans (trow_atT es i j hi hj)
  exact ⟨hc 0 (by omega), hc 1 (by omega), hc 2 (by omega)⟩
theorem TwinAtT.below {w w' : World} {base B : Nat} {room pd : Int} {v : Value} {es : List (Ent ByteArray)} (h : TwinAtT w base B room pd v es) (hb : Below w.heap.size w w') : TwinAtT w' base B room pd v es :=
  ⟨(hb.block B (Array.getElem?_eq_some_iff.1 h.blk).1).trans h.blk, h.low, World.ownsRow.kept (row := some w.heap.size) h.own ⟨hb.os, hb.tape, hb.output, hb.size, fun k hk _ => hb.block k hk⟩ (Or.inr (fun hh => by have := World.ownsRow.lt h.own _ hh; omega)), h.r0, h.r1, h.le⟩
/-- An item is put. -/
theorem TwinAtT.setEnt {w : World} {base B : Nat} {room pd : Int} {g c : Nat} {es : List (Ent ByteArray)} (h : TwinAtT w base B room pd (.slice (some ⟨g, 0, none⟩) es.length c) es) (i : Nat) (hi : i < es.length) (e : Ent ByteArray) :
    TwinAtT (((w.setCell ⟨g, i * 3, none⟩ (.int .u64 e.rk)).setCell ⟨g, i * 3 + 1, none⟩ (.int .u64 e.tn)).setCell ⟨g, i * 3 + 2, none⟩ (Value.string e.x)) base B room pd (.slice (some ⟨g, 0, none⟩) es.length c) (es.set i e) ∧
    Mv w (((w.setCell ⟨g, i * 3, none⟩ (.int .u64 e.rk)).setCell ⟨g, i * 3 + 1, none⟩ (.int .u64 e.tn)).setCell ⟨g, i * 3 + 2, none⟩ (Value.string e.x)) B (.slice (some ⟨g, 0, none⟩) es.length c) (.slice (some ⟨g, 0, none⟩) es.length c) := by
  have hgB : B ≠ g := fun e => h.ne (by rw [e]; rfl)
  have hst := row_put (row_put (row_put h.own (i * 3) (.int .u64 e.rk)) (i * 3 + 1) (.int .u64 e.tn)) (i * 3 + 2) (Value.string e.x)
  rw [trow_setT es i e hi] at hst
  have hh : ∀ j, j ≠ g → (((w.setCell ⟨g, i * 3, none⟩ (.int .u64 e.rk)).setCell ⟨g, i * 3 + 1, none⟩ (.int .u64 e.tn)).setCell ⟨g, i * 3 + 2, none⟩ (Value.string e.x)).heap[j]? = w.heap[j]? := fun j hj =>
    (Below.heap_setCell _ ⟨g, _, none⟩ _ j hj).trans ((Below.heap_setCell _ ⟨g, _, none⟩ _ j hj).trans (Below.heap_setCell _ ⟨g, _, none⟩ _ j hj))
  refine ⟨⟨(hh B hgB).trans h.blk, h.low, by rw [List.length_set]; exact hst, h.r0, h.r1, by rw [List.length_set]; exact h.le⟩, ?_⟩
  exact ⟨rfl, rfl, rfl, by simp [World.setCell], fun j _ _ hj => hh j (fun e => hj (by rw [e]; rfl)), fun j hj => Or.inr hj⟩
set_option maxRecDepth 100000 in
set_option maxHeartbeats 1000000 in
theorem tcompareT (a b : Ent ByteArray) (w : World) :
    Calls Try.prog 132 #[taggT a, taggT b] w fun e w' => e = .returned (.int .i64 (a.cmp b)) ∧ Below w.heap.size w w' := by
  have hr : (if cmpI a.rk b.rk = 0 then cmpI a.tn b.tn else cmpI a.rk b.rk) = a.cmp b := by
    unfold cmpI Ent.cmp
    split <;> split <;> (try split) <;> (try split) <;> omega
  obtain ⟨W1, hW⟩ : ∃ W1, (w.alloc (.cells #[.int .u64 a.rk, .int .u64 a.tn, Value.string a.x] 162)).alloc (.cells #[.int .u64 b.rk, .int .u64 b.tn, Value.string b.x] 162) = W1 := ⟨_, rfl⟩
  have hs : W1.heap.size = w.heap.size + 1 + 1 := by rw [← hW]; simp
  have hB1 : Below w.heap.size w W1 := by rw [← hW]; exact ((Below.refl _ w).alloc (Nat.le_refl _) _).alloc (by simp) _
  have k1 : W1.cell? ⟨w.heap.size, 0, none⟩ = some (.int .u64 a.rk) := by rw [← hW]; simp [go_sem]
  have k2 : W1.cell? ⟨w.heap.size, 1, none⟩ = some (.int .u64 a.tn) := by rw [← hW]; simp [go_sem]
  have k3 : W1.cell? ⟨w.heap.size + 1, 0, none⟩ = some (.int .u64 b.rk) := by rw [← hW]; simp [go_sem]
  have k4 : W1.cell? ⟨w.heap.size + 1, 1, none⟩ = some (.int .u64 b.tn) := by rw [← hW]; simp [go_sem]
  have OR := Lib.hid (or_two (cmpI a.rk b.rk) (cmpI a.tn b.tn) W1.heap.size (W1.alloc (.cells #[.int .i64 (cmpI a.rk b.rk), .int .i64 (cmpI a.tn b.tn)] 3)).drew ((World.cell?_alloc_mark W1 #[.int .i64 (cmpI a.rk b.rk), .int .i64 (cmpI a.tn b.tn)] 3 (0, 0) 0).trans rfl) ((World.cell?_alloc_mark W1 #[.int .i64 (cmpI a.rk b.rk), .int .i64 (cmpI a.tn b.tn)] 3 (0, 0) 1).trans rfl))
  simp only [hr, hs] at OR
  unfold taggT
  clear hr
  have C1 := Lib.hid (fun w => compare_u64 a.rk b.rk w)
  have C2 := Lib.hid (fun w => compare_u64 a.tn b.tn w)
  generalize a.cmp b = r at *
  generalize cmpI a.rk b.rk = c1 at *
  generalize cmpI a.tn b.tn = c2 at *
  generalize a.rk = ark at *
  generalize a.tn = atn at *
  generalize a.x = ax at *
  generalize b.rk = brk at *
  generalize b.tn = btn at *
  generalize b.x = bx at *
  clear a b
  go_enter Try.func132, Try.ntmps132
  go_wp2
  refine wp_region_still_tail 10 (by kernel_rfl) (by kernel_rfl) ?_
  simp only [List.take_succ_cons, List.take_zero, List.drop_succ_cons, List.drop_zero]
  clear hW
  repeat still_step
  still_call (C1.out _)
  repeat still_step
  still_call (C2.out _)
  refine wpStill_nil ?_
  change wpList _ _ _ _ _ W1.drew
  go_wp2_with (go_at_call 94; refine OR.out.mono ?_; rintro e w' ⟨rfl, rfl⟩)
  go_ret
  exact ⟨rfl, (hB1.alloc (by omega) _).drew⟩
end Go.Proofs.Ytiijlfpkninmgaa
