/-
  Package heappifo for elements of type string: which of two places is ahead; two places changed. No block turns but the heap's own. No condition but that the heap is one that New made.
-/
import Derived.Test.YtkgiaijcgblpbaaHeapT1
import Derived.WalkSmall
namespace Go.Proofs.Ytkgiaijcgblpbaa
set_option linter.unusedVariables false
set_option linter.unusedSimpArgs false
open Go.ChangeShapes Go.WideShapes Go.ChangeAt Go.RowKit
attribute [local go_sem] alloc_drewN setCell_drewN

set_option maxRecDepth 100000 in
set_option maxHeartbeats 1000000 in
theorem hbeforeT {w : World} {base B : Nat} {room pd : Int} {v : Value} {es : List (Ent ByteArray)} (h : HeapAtT w base B room pd v es) (i j : Nat) (hi : i < es.length) (hj : j < es.length) :
    Calls Try.prog 122 #[.pointer (some ⟨B, 0, none⟩), .int .i64 i, .int .i64 j] w fun e w' => e = .returned (.bool (decide ((es[i]).lt es[j]))) ∧ Below w.heap.size w w' := by
  obtain ⟨c0, c1, c2⟩ := h.cell
  obtain ⟨g, c, rfl, _, _⟩ := h.own.form (by omega)
  obtain ⟨a0, a1, a2⟩ := h.entAt i hi
  obtain ⟨b0, b1, b2⟩ := h.entAt j hj
  have CM := Lib.hid (hcompareT es[i] es[j] w.drew)
  have hd := Lib.hid (Ent.cmp_neg es[i] es[j])
  have i0 : (0 : Int) ≤ i := by omega
  have i1 : (i : Int) < es.length := by omega
  have j0 : (0 : Int) ≤ j := by omega
  have j1 : (j : Int) < es.length := by omega
  unfold haggT at CM
  clear h
  generalize (es[i]).cmp es[j] = r at *
  generalize decide ((es[i]).lt es[j]) = d at *
  generalize (es[i]).rk = ark at *
  generalize (es[i]).tn = atn at *
  generalize (es[i]).x = ax at *
  generalize (es[j]).rk = brk at *
  generalize (es[j]).tn = btn at *
  generalize (es[j]).x = bx at *
  go_enter Try.func122, Try.ntmps122
  go_wp2
  refine wp_region_still_tail 14 (by kernel_rfl) (by kernel_rfl) ?_
  simp only [List.take_succ_cons, List.take_zero, List.drop_succ_cons, List.drop_zero]
  repeat still_step
  refine wpStill_nil ?_
  change wpList _ _ _ _ _ w.drew
  go_wp2_with (go_at_call 139; refine CM.out.mono ?_; rintro e w' ⟨rfl, hb⟩)
  go_ret
  exact ⟨congrArg (fun b => Ending.returned (Value.bool b)) hd.out, ((Below.refl _ w).drew.trans hb)⟩
theorem HeapAtT.swapped {w : World} {base B : Nat} {room pd : Int} {g c : Nat} {es : List (Ent ByteArray)} (h : HeapAtT w base B room pd (.slice (some ⟨g, 0, none⟩) es.length c) es) (i j : Nat) (hi : i < es.length) (hj : j < es.length) (w' : World)
    (hw : w' = (((((w.setCell ⟨g, i * 3, none⟩ (.int .u64 (es[j]).rk)).setCell ⟨g, i * 3 + 1, none⟩ (Value.string (es[j]).x)).setCell ⟨g, i * 3 + 2, none⟩ (.int .u64 (es[j]).tn)).setCell ⟨g, j * 3, none⟩ (.int .u64 (es[i]).rk)).setCell ⟨g, j * 3 + 1, none⟩ (Value.string (es[i]).x)).setCell ⟨g, j * 3 + 2, none⟩ (.int .u64 (es[i]).tn)) :
    HeapAtT w' base B room pd (.slice (some ⟨g, 0, none⟩) es.length c) (swapL es i j) ∧ Mv w w' B (.slice (some ⟨g, 0, none⟩) es.length c) (.slice (some ⟨g, 0, none⟩) es.length c) := by
  subst hw
  obtain ⟨h1, m1⟩ := h.setEnt i hi es[j]
  have h1' : HeapAtT (((w.setCell ⟨g, i * 3, none⟩ (.int .u64 (es[j]).rk)).setCell ⟨g, i * 3 + 1, none⟩ (Value.string (es[j]).x)).setCell ⟨g, i * 3 + 2, none⟩ (.int .u64 (es[j]).tn)) base B room pd (.slice (some ⟨g, 0, none⟩) (es.set i es[j]).length c) (es.set i es[j]) := by rw [List.length_set]; exact h1
  obtain ⟨h2, m2⟩ := h1'.setEnt j (by rw [List.length_set]; exact hj) es[i]
  rw [List.length_set] at h2 m2
  rw [swapL_eq es i j hi hj]
  exact ⟨h2, m1.trans m2⟩
set_option maxRecDepth 100000 in
set_option maxHeartbeats 2000000 in
theorem hswapT {w : World} {base B : Nat} {room pd : Int} {v : Value} {es : List (Ent ByteArray)} (h : HeapAtT w base B room pd v es) (i j : Nat) (hi : i < es.length) (hj : j < es.length) (hij : i ≠ j) :
    Calls Try.prog 123 #[.pointer (some ⟨B, 0, none⟩), .int .i64 i, .int .i64 j] w fun e w' => e = .returned (.tuple #[]) ∧ HeapAtT w' base B room pd v (swapL es i j) ∧ Mv w w' B v v := by
  obtain ⟨c0, c1, c2⟩ := h.cell
  obtain ⟨g, c, rfl, _, _⟩ := h.own.form (by omega)
  obtain ⟨a0, a1, a2⟩ := h.entAt i hi
  obtain ⟨b0, b1, b2⟩ := h.entAt j hj
  have z0 := h.own.frozenAt (i * 3)
  have z1 := h.own.frozenAt (i * 3 + 1)
  have z2 := h.own.frozenAt (i * 3 + 2)
  have y0 := h.own.frozenAt (j * 3)
  have y1 := h.own.frozenAt (j * 3 + 1)
  have y2 := h.own.frozenAt (j * 3 + 2)
  have i0 : (0 : Int) ≤ i := by omega
  have i1 : (i : Int) < es.length := by omega
  have j0 : (0 : Int) ≤ j := by omega
  have j1 : (j : Int) < es.length := by omega
  have hB1 : ¬ g = B := fun e => h.ne (by rw [e]; rfl)
  have hB2 : ¬ B = g := fun e => hB1 e.symm
  have n1 : ¬ i = j := hij
  have n2 : ¬ j = i := fun e => hij e.symm
  have p0 : ¬ i * 3 = j * 3 + 1 := by omega
  have q0 : ¬ j * 3 + 1 = i * 3 := by omega
  have p1 : ¬ i * 3 = j * 3 + 2 := by omega
  have q1 : ¬ j * 3 + 2 = i * 3 := by omega
  have p2 : ¬ i * 3 + 1 = j * 3 := by omega
  have q2 : ¬ j * 3 = i * 3 + 1 := by omega
  have p3 : ¬ i * 3 + 1 = j * 3 + 2 := by omega
  have q3 : ¬ j * 3 + 2 = i * 3 + 1 := by omega
  have p4 : ¬ i * 3 + 2 = j * 3 := by omega
  have q4 : ¬ j * 3 = i * 3 + 2 := by omega
  have p5 : ¬ i * 3 + 2 = j * 3 + 1 := by omega
  have q5 : ¬ j * 3 + 1 = i * 3 + 2 := by omega
  have SW := Lib.hid (h.swapped i j hi hj)
  clear h
  generalize (es[i]).rk = ark at *
  generalize (es[i]).tn = atn at *
  generalize (es[i]).x = ax at *
  generalize (es[j]).rk = brk at *
  generalize (es[j]).tn = btn at *
  generalize (es[j]).x = bx at *
  go_enter Try.func123, Try.ntmps123
  go_region
  go_wp2
  go_end0
  obtain ⟨t1, t2⟩ := SW.out _ rfl
  first
    | exact ⟨rfl, t1.drewN _, t2.drewN _⟩
    | exact ⟨rfl, t1.drewN 1, t2.drewN 1⟩
end Go.Proofs.Ytkgiaijcgblpbaa
