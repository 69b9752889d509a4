/-
  Package gate where there is no such class, or the plan may not be, or the time is too late. No condition beside.
-/
import Derived.Test.YtmkgadndfiiacaaGt12
import Derived.Test.YtmkgadndfiiacaaRangeN
namespace Go.Proofs.Ytmkgadndfiiacaa
set_option linter.unusedVariables false
set_option linter.unusedSimpArgs false
open Go.ChangeShapes Go.WideShapes Go.ChangeAt Go.RowKit Go.Shelf
attribute [local go_sem] Oper.semAt_some

theorem isclass22_no (cl : Int) (h : ¬ (0 ≤ cl ∧ cl ≤ 7)) (w : World) : Calls Try.prog 87 #[.int .i64 cl] w fun e w' => e = .returned (.bool false) ∧ w' = w := by
  go_enter Try.func87, Try.ntmps87
  by_cases h1 : 0 ≤ cl
  · have h2 : ¬ cl < 8 := by omega
    go_wp2
    go_ret
    exact ⟨by simp [h1, h2], rfl⟩
  · go_wp2
    go_ret
    exact ⟨by simp [h1], rfl⟩
/-- The iterator of a plan that may not be tells nothing. -/
theorem none22 {a : Option Addr} {n c : Nat} {fs : List Slot22} (m : Nat) {Bl Ba : Nat} {t : Int} (hok : ¬ PlanOk fs n) (l : Nat) (W : World) (h : GIt a n c fs Bl Ba t W) :
    CallsIn Fence.wide m Try.prog 140 (#[.func (.yield l) #[] #[]] ++ #[.pointer (some ⟨Bl, 0, none⟩), .pointer (some ⟨Ba, 0, none⟩)]) W fun e W' => (∃ v, e = .returned v) ∧ Below W.heap.size W W' := by
  have RD := Lib.hid (ground22_no h.row c hok)
  have cl := cell_of_row W Bl 0 _ _ (0, 0) h.l
  clear h hok
  refine callsIn_of_wp Try.func140 rfl trivial ?_ rfl
  simp only [Try.ntmps140, List.size_toArray, List.length_cons, List.length_nil, Nat.reduceAdd, Nat.reduceSub, Array.replicate_succ, Array.replicate_zero, List.push_toArray, List.append_toArray, List.nil_append, List.cons_append]
  gi_wp2
  refine ⟨trivial, (fun h => by cases h), ?_⟩
  refine ((callsIn_wide (n := m - 1)).2 RD.out).mono ?_
  rintro e W1 ⟨rfl, b1⟩
  gi_wp2
  refine bodyPost_ret (results_none rfl _ _ _) rfl ?_
  exact ⟨⟨_, rfl⟩, b1⟩
--GEN
set_option maxRecDepth 100000 in
set_option maxHeartbeats 4000000 in
theorem gopen22_no {w : World} {a : Option Addr} {n c : Nat} {fs : List Slot22} (hr : RowSl w a n fs) (hok : ¬ PlanOk fs n) (t : Int) :
    Calls Try.prog 31 #[.slice a n c, .int .u64 t] w fun e w' => e = .returned (.int .u8 0) ∧ Below w.heap.size w w' := by
  have SF := Lib.hid (fun (m : Nat) (W : World) => (callsIn_wide (n := m)).2 (sfrom22 a n c t W))
  have HR := Lib.hid hr
  clear hr
  refine (callsIn_wide (n := 4)).1 ?_
  refine callsIn_of_wp_marks Try.func31 rfl trivial ?_ rfl
  simp only [Try.ntmps31, List.size_toArray, List.length_cons, List.length_nil, Nat.reduceAdd, Nat.reduceSub, Array.replicate_succ, Array.replicate_zero, List.push_toArray, List.append_toArray, List.nil_append, List.cons_append]
  gi_wp2_with (refine ⟨trivial, ?_⟩; gi_at_call 88; refine (SF.out _ _).mono ?_; rintro e w1 ⟨rfl, rfl⟩)
  obtain ⟨W0, hW0⟩ : ∃ W0, (((w.alloc (.cells #[.int .u8 0] 5)).alloc (.cells #[.slice a n c] 53)).alloc (.cells #[.int .u64 t] 22)) = W0 := ⟨_, rfl⟩
  have hb : Below w.heap.size w W0 := by rw [← hW0]; exact ((((Below.refl _ w).alloc (by simp <;> omega) _).alloc (by simp <;> omega) _).alloc (by simp <;> omega) _)
  have r0 : W0.heap[w.heap.size]? = some (.cells #[.int .u8 0] 5 (0, 0)) := by rw [← hW0]; exact (blk_old (blk_old (blk_new (by simp))))
  have r1 : W0.heap[w.heap.size + 1]? = some (.cells #[.slice a n c] 53 (0, 0)) := by rw [← hW0]; exact (blk_old (blk_new (by simp)))
  have r2 : W0.heap[w.heap.size + 1 + 1]? = some (.cells #[.int .u64 t] 22 (0, 0)) := by rw [← hW0]; exact (blk_new (by simp))
  rw [hW0]
  clear hW0
  have hs1 : w.heap.size ≤ W0.heap.size := hb.size
  refine range_none rfl (by omega) (gf := 140) (lb := #[.pointer (some ⟨w.heap.size + 1, 0, none⟩), .pointer (some ⟨w.heap.size + 1 + 1, 0, none⟩)]) rfl trivial (enters_of Try.func140 (by kernel_rfl) rfl)
    (fun V => V.heap[w.heap.size]? = some (.cells #[.int .u8 0] 5 (0, 0)) ∧ GIt a n c fs (w.heap.size + 1) (w.heap.size + 1 + 1) t V ∧ Below w.heap.size w V)
    ?_ ?_ ?_ ⟨r0, ⟨r1, r2, HR.out.below hb⟩, hb⟩
  · rintro - A B' row ⟨h1, h2, h3⟩ hg hrow
    have hb3 := h3.grown hg h3.size (fun k e => Nat.le_trans hs1 (hrow k e).1)
    exact ⟨own_block h1 hg hrow, ⟨own_block h2.l hg hrow, own_block h2.t hg hrow, HR.out.below hb3⟩, hb3⟩
  · rintro l V ⟨h1, h2, h3⟩
    refine (none22 _ hok l V h2).mono ?_
    rintro e V' ⟨hv, hbb⟩
    have st : ∀ {q : Nat} {o : Obj}, V.heap[q]? = some o → V'.heap[q]? = some o := fun h => (hbb.block _ (Array.getElem?_eq_some_iff.1 h).1).trans h
    exact ⟨hv, hbb, st h1, ⟨st h2.l, st h2.t, h2.row.below hbb⟩, h3.trans (hbb.mono h3.size)⟩
  · rintro D V hD ⟨q2, -, q3⟩ hK
    have c2 := cell_of_row V w.heap.size 0 _ _ (0, 0) q2
    have f2 := frozen_of_row V w.heap.size 0 _ _ q2
    gi_wp2
    have hne : w.heap.size ≠ D := fun e => by
      rw [← e, q2] at hK
      cases hK
    have hK2 : (V.setCell ⟨w.heap.size, 0, none⟩ (.int .u8 0)).heap[D]? = some (.deferred (some [])) := (Below.heap_setCell _ _ _ _ (fun e => hne e.symm)).trans hK
    refine ⟨by simp, .inl ⟨_, _, rfl, run_takeDeferred hK2, ?_⟩⟩
    have d2 := cell_of_row _ (w.heap.size) 0 _ _ (0, 0) ((World.putObj_heap_other (o := .deferred none) hne).trans (put1_0 (u := .int .u8 0) q2))
    exact ⟨.int .u8 0, by simp [results, Try.results31, go_sem, d2], rfl, (q3.setCell (p := ⟨w.heap.size, 0, none⟩) (by simp) _).trans (belowK_b (w := W0) hs1 _ D _ _ hD hK2 rfl rfl)⟩
set_option maxRecDepth 100000 in
set_option maxHeartbeats 4000000 in
theorem gstays22_nc (a : Option Addr) (n c : Nat) (cl : Int) (hcl : ¬ (0 ≤ cl ∧ cl ≤ 7)) (t : Int) (w : World) :
    Calls Try.prog 27 #[.slice a n c, .int .i64 cl, .int .u64 t] w fun e w' => e = .returned (.tuple #[.int .u64 0, .bool false]) ∧ Below w.heap.size w w' := by
  have IC := Lib.hid (fun (m : Nat) (W : World) => (callsIn_wide (n := m)).2 (isclass22_no cl hcl W))
  refine (callsIn_wide (n := 4)).1 ?_
  refine callsIn_of_wp_marks Try.func27 rfl trivial ?_ rfl
  simp only [Try.ntmps27, List.size_toArray, List.length_cons, List.length_nil, Nat.reduceAdd, Nat.reduceSub, Array.replicate_succ, Array.replicate_zero, List.push_toArray, List.append_toArray, List.nil_append, List.cons_append]
  obtain ⟨W0, hW0⟩ : ∃ W0, (((w.alloc (.cells #[.int .i64 cl] 3)).alloc (.cells #[.int .u64 0] 22)).alloc (.cells #[.bool false] 4)) = W0 := ⟨_, rfl⟩
  have hb0 : Below w.heap.size w W0 := by rw [← hW0]; exact ((((Below.refl _ w).alloc (by simp <;> omega) _).alloc (by simp <;> omega) _).alloc (by simp <;> omega) _)
  have b0 : W0.heap[w.heap.size]? = some (.cells #[.int .i64 cl] 3 (0, 0)) := by rw [← hW0]; exact (blk_old (blk_old (blk_new (by simp))))
  obtain ⟨c0, f0⟩ := at1 b0
  have b1 : W0.heap[w.heap.size + 1]? = some (.cells #[.int .u64 0] 22 (0, 0)) := by rw [← hW0]; exact (blk_old (blk_new (by simp)))
  obtain ⟨c1, f1⟩ := at1 b1
  have b2 : W0.heap[w.heap.size + 1 + 1]? = some (.cells #[.bool false] 4 (0, 0)) := by rw [← hW0]; exact (blk_new (by simp))
  obtain ⟨c2, f2⟩ := at1 b2
  gi_wp2_with (refine ⟨trivial, ?_⟩; gi_at_call 87; refine (IC.out _ _).mono ?_; rintro e w1 ⟨rfl, rfl⟩)
  have s1 : ((w1.setCell ⟨w.heap.size + 1, 0, none⟩ (.int .u64 0)).setCell ⟨w.heap.size + 1 + 1, 0, none⟩ (.bool false)).heap[w.heap.size + 1]? = some (.cells #[.int .u64 0] 22 (0, 0)) := (Below.heap_setCell _ _ _ _ (by simp)).trans (put1_0 b1)
  have s2 : ((w1.setCell ⟨w.heap.size + 1, 0, none⟩ (.int .u64 0)).setCell ⟨w.heap.size + 1 + 1, 0, none⟩ (.bool false)).heap[w.heap.size + 1 + 1]? = some (.cells #[.bool false] 4 (0, 0)) := put1_0 ((Below.heap_setCell _ _ _ _ (by simp)).trans b2)
  have e1 := (at1 s1).1
  have e2 := (at1 s2).1
  exact ⟨.tuple #[.int .u64 0, .bool false], by simp [results, Try.results27, go_sem, e1, e2], rfl, (hb0.setCell (p := ⟨w.heap.size + 1, 0, none⟩) (by simp <;> omega) _).setCell (p := ⟨w.heap.size + 1 + 1, 0, none⟩) (by simp <;> omega) _⟩
set_option maxRecDepth 100000 in
set_option maxHeartbeats 4000000 in
theorem gnext22_nc (a : Option Addr) (n c : Nat) (cl : Int) (hcl : ¬ (0 ≤ cl ∧ cl ≤ 7)) (t need : Int) (w : World) :
    Calls Try.prog 28 #[.slice a n c, .int .i64 cl, .int .u64 t, .int .u64 need] w fun e w' => e = .returned (.tuple #[.int .u64 0, .bool false]) ∧ Below w.heap.size w w' := by
  have IC := Lib.hid (fun (m : Nat) (W : World) => (callsIn_wide (n := m)).2 (isclass22_no cl hcl W))
  refine (callsIn_wide (n := 4)).1 ?_
  refine callsIn_of_wp_marks Try.func28 rfl trivial ?_ rfl
  simp only [Try.ntmps28, List.size_toArray, List.length_cons, List.length_nil, Nat.reduceAdd, Nat.reduceSub, Array.replicate_succ, Array.replicate_zero, List.push_toArray, List.append_toArray, List.nil_append, List.cons_append]
  obtain ⟨W0, hW0⟩ : ∃ W0, ((((w.alloc (.cells #[.int .i64 cl] 3)).alloc (.cells #[.int .u64 t] 22)).alloc (.cells #[.int .u64 0] 22)).alloc (.cells #[.bool false] 4)) = W0 := ⟨_, rfl⟩
  have hb0 : Below w.heap.size w W0 := by rw [← hW0]; exact (((((Below.refl _ w).alloc (by simp <;> omega) _).alloc (by simp <;> omega) _).alloc (by simp <;> omega) _).alloc (by simp <;> omega) _)
  have b0 : W0.heap[w.heap.size]? = some (.cells #[.int .i64 cl] 3 (0, 0)) := by rw [← hW0]; exact (blk_old (blk_old (blk_old (blk_new (by simp)))))
  obtain ⟨c0, f0⟩ := at1 b0
  have b1 : W0.heap[w.heap.size + 1]? = some (.cells #[.int .u64 t] 22 (0, 0)) := by rw [← hW0]; exact (blk_old (blk_old (blk_new (by simp))))
  obtain ⟨c1, f1⟩ := at1 b1
  have b2 : W0.heap[w.heap.size + 1 + 1]? = some (.cells #[.int .u64 0] 22 (0, 0)) := by rw [← hW0]; exact (blk_old (blk_new (by simp)))
  obtain ⟨c2, f2⟩ := at1 b2
  have b3 : W0.heap[w.heap.size + 1 + 1 + 1]? = some (.cells #[.bool false] 4 (0, 0)) := by rw [← hW0]; exact (blk_new (by simp))
  obtain ⟨c3, f3⟩ := at1 b3
  gi_wp2_with (refine ⟨trivial, ?_⟩; gi_at_call 87; refine (IC.out _ _).mono ?_; rintro e w1 ⟨rfl, rfl⟩)
  have s1 : ((w1.setCell ⟨w.heap.size + 1 + 1, 0, none⟩ (.int .u64 0)).setCell ⟨w.heap.size + 1 + 1 + 1, 0, none⟩ (.bool false)).heap[w.heap.size + 1 + 1]? = some (.cells #[.int .u64 0] 22 (0, 0)) := (Below.heap_setCell _ _ _ _ (by simp)).trans (put1_0 b2)
  have s2 : ((w1.setCell ⟨w.heap.size + 1 + 1, 0, none⟩ (.int .u64 0)).setCell ⟨w.heap.size + 1 + 1 + 1, 0, none⟩ (.bool false)).heap[w.heap.size + 1 + 1 + 1]? = some (.cells #[.bool false] 4 (0, 0)) := put1_0 ((Below.heap_setCell _ _ _ _ (by simp)).trans b3)
  have e1 := (at1 s1).1
  have e2 := (at1 s2).1
  exact ⟨.tuple #[.int .u64 0, .bool false], by simp [results, Try.results28, go_sem, e1, e2], rfl, (hb0.setCell (p := ⟨w.heap.size + 1 + 1, 0, none⟩) (by simp <;> omega) _).setCell (p := ⟨w.heap.size + 1 + 1 + 1, 0, none⟩) (by simp <;> omega) _⟩
set_option maxRecDepth 100000 in
set_option maxHeartbeats 4000000 in
theorem gnext22_late (a : Option Addr) (n c : Nat) (cl : Int) (hcl : 0 ≤ cl ∧ cl ≤ 7) (t need : Int) (t1 : 9223372036854775808 < t) (w : World) :
    Calls Try.prog 28 #[.slice a n c, .int .i64 cl, .int .u64 t, .int .u64 need] w fun e w' => e = .returned (.tuple #[.int .u64 0, .bool false]) ∧ Below w.heap.size w w' := by
  have IC := Lib.hid (fun (m : Nat) (W : World) => (callsIn_wide (n := m)).2 (isclass22 cl.toNat (by omega) W))
  rw [show ((cl.toNat : Nat) : Int) = cl by omega] at IC
  refine (callsIn_wide (n := 4)).1 ?_
  refine callsIn_of_wp_marks Try.func28 rfl trivial ?_ rfl
  simp only [Try.ntmps28, List.size_toArray, List.length_cons, List.length_nil, Nat.reduceAdd, Nat.reduceSub, Array.replicate_succ, Array.replicate_zero, List.push_toArray, List.append_toArray, List.nil_append, List.cons_append]
  obtain ⟨W0, hW0⟩ : ∃ W0, ((((w.alloc (.cells #[.int .i64 cl] 3)).alloc (.cells #[.int .u64 t] 22)).alloc (.cells #[.int .u64 0] 22)).alloc (.cells #[.bool false] 4)) = W0 := ⟨_, rfl⟩
  have hb0 : Below w.heap.size w W0 := by rw [← hW0]; exact (((((Below.refl _ w).alloc (by simp <;> omega) _).alloc (by simp <;> omega) _).alloc (by simp <;> omega) _).alloc (by simp <;> omega) _)
  have b0 : W0.heap[w.heap.size]? = some (.cells #[.int .i64 cl] 3 (0, 0)) := by rw [← hW0]; exact (blk_old (blk_old (blk_old (blk_new (by simp)))))
  obtain ⟨c0, f0⟩ := at1 b0
  have b1 : W0.heap[w.heap.size + 1]? = some (.cells #[.int .u64 t] 22 (0, 0)) := by rw [← hW0]; exact (blk_old (blk_old (blk_new (by simp))))
  obtain ⟨c1, f1⟩ := at1 b1
  have b2 : W0.heap[w.heap.size + 1 + 1]? = some (.cells #[.int .u64 0] 22 (0, 0)) := by rw [← hW0]; exact (blk_old (blk_new (by simp)))
  obtain ⟨c2, f2⟩ := at1 b2
  have b3 : W0.heap[w.heap.size + 1 + 1 + 1]? = some (.cells #[.bool false] 4 (0, 0)) := by rw [← hW0]; exact (blk_new (by simp))
  obtain ⟨c3, f3⟩ := at1 b3
  gi_wp2_with (refine ⟨trivial, ?_⟩; gi_at_call 87; refine (IC.out _ _).mono ?_; rintro e w1 ⟨rfl, rfl⟩)
  have s1 : ((w1.setCell ⟨w.heap.size + 1 + 1, 0, none⟩ (.int .u64 0)).setCell ⟨w.heap.size + 1 + 1 + 1, 0, none⟩ (.bool false)).heap[w.heap.size + 1 + 1]? = some (.cells #[.int .u64 0] 22 (0, 0)) := (Below.heap_setCell _ _ _ _ (by simp)).trans (put1_0 b2)
  have s2 : ((w1.setCell ⟨w.heap.size + 1 + 1, 0, none⟩ (.int .u64 0)).setCell ⟨w.heap.size + 1 + 1 + 1, 0, none⟩ (.bool false)).heap[w.heap.size + 1 + 1 + 1]? = some (.cells #[.bool false] 4 (0, 0)) := put1_0 ((Below.heap_setCell _ _ _ _ (by simp)).trans b3)
  have e1 := (at1 s1).1
  have e2 := (at1 s2).1
  exact ⟨.tuple #[.int .u64 0, .bool false], by simp [results, Try.results28, go_sem, e1, e2], rfl, (hb0.setCell (p := ⟨w.heap.size + 1 + 1, 0, none⟩) (by simp <;> omega) _).setCell (p := ⟨w.heap.size + 1 + 1 + 1, 0, none⟩) (by simp <;> omega) _⟩
set_option maxRecDepth 100000 in
set_option maxHeartbeats 4000000 in
theorem gstays22_no {w : World} {a : Option Addr} {n c : Nat} {fs : List Slot22} (hr : RowSl w a n fs) (hok : ¬ PlanOk fs n) (cl : Nat) (hcl : cl ≤ 7) (t : Int) :
    Calls Try.prog 27 #[.slice a n c, .int .i64 cl, .int .u64 t] w fun e w' => e = .returned (.tuple #[.int .u64 0, .bool false]) ∧ Below w.heap.size w w' := by
  have SF := Lib.hid (fun (m : Nat) (W : World) => (callsIn_wide (n := m)).2 (sfrom22 a n c t W))
  have IC := Lib.hid (fun (m : Nat) (W : World) => (callsIn_wide (n := m)).2 (isclass22 cl hcl W))
  have RD := Lib.hid (fun (m : Nat) (W : World) (h : Below w.heap.size w W) => (callsIn_wide (n := m)).2 (ground22_no (hr.below h) c hok))
  have HR := Lib.hid hr
  clear hr
  refine (callsIn_wide (n := 4)).1 ?_
  refine callsIn_of_wp_marks Try.func27 rfl trivial ?_ rfl
  simp only [Try.ntmps27, List.size_toArray, List.length_cons, List.length_nil, Nat.reduceAdd, Nat.reduceSub, Array.replicate_succ, Array.replicate_zero, List.push_toArray, List.append_toArray, List.nil_append, List.cons_append]
  obtain ⟨W0, hW0⟩ : ∃ W0, (((w.alloc (.cells #[.int .i64 cl] 3)).alloc (.cells #[.int .u64 0] 22)).alloc (.cells #[.bool false] 4)) = W0 := ⟨_, rfl⟩
  have hb0 : Below w.heap.size w W0 := by rw [← hW0]; exact ((((Below.refl _ w).alloc (by simp <;> omega) _).alloc (by simp <;> omega) _).alloc (by simp <;> omega) _)
  have hz0 : W0.heap.size = w.heap.size + 3 := by rw [← hW0]; simp
  have b0 : W0.heap[w.heap.size]? = some (.cells #[.int .i64 cl] 3 (0, 0)) := by rw [← hW0]; exact (blk_old (blk_old (blk_new (by simp))))
  obtain ⟨c0, f0⟩ := at1 b0
  have Q0 := Lib.hid b0
  clear b0
  have b1 : W0.heap[w.heap.size + 1]? = some (.cells #[.int .u64 0] 22 (0, 0)) := by rw [← hW0]; exact (blk_old (blk_new (by simp)))
  obtain ⟨c1, f1⟩ := at1 b1
  have Q1 := Lib.hid b1
  clear b1
  have b2 : W0.heap[w.heap.size + 1 + 1]? = some (.cells #[.bool false] 4 (0, 0)) := by rw [← hW0]; exact (blk_new (by simp))
  obtain ⟨c2, f2⟩ := at1 b2
  have Q2 := Lib.hid b2
  clear b2
  have HB0 := Lib.hid hb0; have HZ := Lib.hid hz0
  clear hb0 hz0
  gi_wp2_with (first
    | (refine ⟨trivial, ?_⟩; gi_at_call 87; refine (IC.out _ _).mono ?_; rintro e w1 ⟨rfl, rfl⟩)
    | fail)
  refine ⟨trivial, ?_⟩
  gi_at_call 30
  refine (RD.out _ _ HB0.out).mono ?_
  rintro e w2 ⟨rfl, hb2⟩
  have hz9 := hb2.size
  have hz8 := HZ.out
  have hl9 : w.heap.size + 1 < w2.heap.size := by omega
  have g1 : w.heap.size < w2.heap.size := by omega
  have g2 : w.heap.size < w2.heap.size + 1 := by omega
  have g3 : w.heap.size < w2.heap.size + 1 + 1 := by omega
  have g4 : ¬ w.heap.size + 1 = w2.heap.size := by omega
  have g5 : ¬ w.heap.size = w2.heap.size := by omega
  have g6 : ¬ w.heap.size = w2.heap.size + 1 := by omega
  have g7 : ¬ w.heap.size = w2.heap.size + 1 + 1 := by omega
  have p0 := (hb2.block _ (by omega)).trans Q0.out
  have p1 := (hb2.block _ (by omega)).trans Q1.out
  have p2 := (hb2.block _ (by omega)).trans Q2.out
  have a1 := (at1 p1).1
  have HB2 := Lib.hid (HB0.out.trans (hb2.mono HB0.out.size))
  have hn2 : w.heap.size + 3 ≤ w2.heap.size := by omega
  clear hz8 hz9 hb2
  gi_wp2_with (refine ⟨trivial, ?_⟩; gi_at_call 88; refine (SF.out _ _).mono ?_; rintro e w3 ⟨rfl, rfl⟩)
  obtain ⟨W3, hW3⟩ : ∃ W3, ((((w2.alloc (.cells #[.int .u64 0] 22)).alloc (.cells #[.int .u64 0] 22)).alloc (.cells #[.slice a n c] 53)).alloc (.cells #[.int .u64 t] 22)) = W3 := ⟨_, rfl⟩
  have hb3 : Below w.heap.size w W3 := by
    rw [← hW3]
    exact (((HB2.out.alloc HB2.out.size _).alloc (by have := HB2.out.size; simp; omega) _).alloc (by have := HB2.out.size; simp; omega) _).alloc (by have := HB2.out.size; simp; omega) _
  have r1 : W3.heap[w.heap.size + 1]? = some (.cells #[.int .u64 0] 22 (0, 0)) := by rw [← hW3]; exact (blk_old (blk_old (blk_old (blk_old p1))))
  have r2 : W3.heap[w.heap.size + 1 + 1]? = some (.cells #[.bool false] 4 (0, 0)) := by rw [← hW3]; exact (blk_old (blk_old (blk_old (blk_old p2))))
  have s2 : W3.heap[w2.heap.size + 1 + 1]? = some (.cells #[.slice a n c] 53 (0, 0)) := by rw [← hW3]; exact (blk_old (blk_new (by simp)))
  have s3 : W3.heap[w2.heap.size + 1 + 1 + 1]? = some (.cells #[.int .u64 t] 22 (0, 0)) := by rw [← hW3]; exact (blk_new (by simp))
  rw [hW3]
  have hs1 : w.heap.size ≤ W3.heap.size := hb3.size
  refine range_none rfl (by omega) (gf := 140) (lb := #[.pointer (some ⟨w2.heap.size + 1 + 1, 0, none⟩), .pointer (some ⟨w2.heap.size + 1 + 1 + 1, 0, none⟩)]) rfl trivial (enters_of Try.func140 (by kernel_rfl) rfl)
    (fun V => V.heap[w.heap.size + 1]? = some (.cells #[.int .u64 0] 22 (0, 0)) ∧ V.heap[w.heap.size + 1 + 1]? = some (.cells #[.bool false] 4 (0, 0)) ∧ GIt a n c fs (w2.heap.size + 1 + 1) (w2.heap.size + 1 + 1 + 1) t V ∧ Below w.heap.size w V)
    ?_ ?_ ?_ ⟨r1, r2, ⟨s2, s3, HR.out.below hb3⟩, hb3⟩
  · rintro - A B' row ⟨h1, h4, h2, h3⟩ hg hrow
    have hb3 := h3.grown hg h3.size (fun k e => Nat.le_trans hs1 (hrow k e).1)
    exact ⟨own_block h1 hg hrow, own_block h4 hg hrow, ⟨own_block h2.l hg hrow, own_block h2.t hg hrow, HR.out.below hb3⟩, hb3⟩
  · rintro l V ⟨h1, h4, h2, h3⟩
    refine (none22 _ hok l V h2).mono ?_
    rintro e V' ⟨hv, hbb⟩
    have st : ∀ {q : Nat} {o : Obj}, V.heap[q]? = some o → V'.heap[q]? = some o := fun h => (hbb.block _ (Array.getElem?_eq_some_iff.1 h).1).trans h
    exact ⟨hv, hbb, st h1, st h4, ⟨st h2.l, st h2.t, h2.row.below hbb⟩, h3.trans (hbb.mono h3.size)⟩
  · rintro D V hD ⟨q1, q2, -, q3⟩ hK
    obtain ⟨x1, x2⟩ := at1 q1
    obtain ⟨x3, x4⟩ := at1 q2
    gi_wp2
    have n1 : w.heap.size + 1 ≠ D := fun e => by rw [← e, q1] at hK; cases hK
    have n2 : w.heap.size + 1 + 1 ≠ D := fun e => by rw [← e, q2] at hK; cases hK
    have hK2 : ((V.setCell ⟨w.heap.size + 1, 0, none⟩ (.int .u64 0)).setCell ⟨w.heap.size + 1 + 1, 0, none⟩ (.bool false)).heap[D]? = some (.deferred (some [])) := (Below.heap_setCell _ _ _ _ (fun e => n2 e.symm)).trans ((Below.heap_setCell _ _ _ _ (fun e => n1 e.symm)).trans hK)
    have s1 : ((V.setCell ⟨w.heap.size + 1, 0, none⟩ (.int .u64 0)).setCell ⟨w.heap.size + 1 + 1, 0, none⟩ (.bool false)).heap[w.heap.size + 1]? = some (.cells #[.int .u64 0] 22 (0, 0)) := (Below.heap_setCell _ _ _ _ (by simp)).trans (put1_0 q1)
    have s2 : ((V.setCell ⟨w.heap.size + 1, 0, none⟩ (.int .u64 0)).setCell ⟨w.heap.size + 1 + 1, 0, none⟩ (.bool false)).heap[w.heap.size + 1 + 1]? = some (.cells #[.bool false] 4 (0, 0)) := put1_0 ((Below.heap_setCell _ _ _ _ (by simp)).trans q2)
    have e1 := cell_of_row _ (w.heap.size + 1) 0 _ _ (0, 0) ((World.putObj_heap_other (o := .deferred none) n1).trans s1)
    have e2 := cell_of_row _ (w.heap.size + 1 + 1) 0 _ _ (0, 0) ((World.putObj_heap_other (o := .deferred none) n2).trans s2)
    have hbs := (q3.setCell (p := ⟨w.heap.size + 1, 0, none⟩) (by simp <;> omega) (.int .u64 0)).setCell (p := ⟨w.heap.size + 1 + 1, 0, none⟩) (by simp <;> omega) (.bool false)
    refine ⟨by simp, .inl ⟨_, _, rfl, run_takeDeferred hK2, ?_⟩⟩
    exact ⟨.tuple #[.int .u64 0, .bool false], by simp [results, Try.results27, go_sem, e1, e2], rfl, hbs.trans (belowK_b (w := W3) hs1 _ D _ (.deferred none) hD hK2 rfl rfl)⟩
set_option maxRecDepth 100000 in
set_option maxHeartbeats 4000000 in
theorem gnext22_noa {w : World} {a : Option Addr} {n c : Nat} {fs : List Slot22} (hr : RowSl w a n fs) (hok : ¬ PlanOk fs n) (cl : Nat) (hcl : cl ≤ 7) (t : Int) (t1 : t ≤ 9223372036854775808) (need : Int) (need0 : need < 1) :
    Calls Try.prog 28 #[.slice a n c, .int .i64 cl, .int .u64 t, .int .u64 need] w fun e w' => e = .returned (.tuple #[.int .u64 0, .bool false]) ∧ Below w.heap.size w w' := by
  have SF := Lib.hid (fun (m : Nat) (W : World) => (callsIn_wide (n := m)).2 (sfrom22 a n c t W))
  have IC := Lib.hid (fun (m : Nat) (W : World) => (callsIn_wide (n := m)).2 (isclass22 cl hcl W))
  have RD := Lib.hid (fun (m : Nat) (W : World) (h : Below w.heap.size w W) => (callsIn_wide (n := m)).2 (ground22_no (hr.below h) c hok))
  have HR := Lib.hid hr
  clear hr
  have ntl : ¬ 9223372036854775808 < t := by omega
  have f1 : ¬ 1 ≤ need := by omega
  have f2 : max need 1 = 1 := by omega
  refine (callsIn_wide (n := 4)).1 ?_
  refine callsIn_of_wp_marks Try.func28 rfl trivial ?_ rfl
  simp only [Try.ntmps28, List.size_toArray, List.length_cons, List.length_nil, Nat.reduceAdd, Nat.reduceSub, Array.replicate_succ, Array.replicate_zero, List.push_toArray, List.append_toArray, List.nil_append, List.cons_append]
  obtain ⟨W0, hW0⟩ : ∃ W0, ((((w.alloc (.cells #[.int .i64 cl] 3)).alloc (.cells #[.int .u64 t] 22)).alloc (.cells #[.int .u64 0] 22)).alloc (.cells #[.bool false] 4)) = W0 := ⟨_, rfl⟩
  have hb0 : Below w.heap.size w W0 := by rw [← hW0]; exact (((((Below.refl _ w).alloc (by simp <;> omega) _).alloc (by simp <;> omega) _).alloc (by simp <;> omega) _).alloc (by simp <;> omega) _)
  have hz0 : W0.heap.size = w.heap.size + 4 := by rw [← hW0]; simp
  have b0 : W0.heap[w.heap.size]? = some (.cells #[.int .i64 cl] 3 (0, 0)) := by rw [← hW0]; exact (blk_old (blk_old (blk_old (blk_new (by simp)))))
  obtain ⟨c0, f0⟩ := at1 b0
  have Q0 := Lib.hid b0
  clear b0
  have b1 : W0.heap[w.heap.size + 1]? = some (.cells #[.int .u64 t] 22 (0, 0)) := by rw [← hW0]; exact (blk_old (blk_old (blk_new (by simp))))
  obtain ⟨c1, f1⟩ := at1 b1
  have Q1 := Lib.hid b1
  clear b1
  have b2 : W0.heap[w.heap.size + 1 + 1]? = some (.cells #[.int .u64 0] 22 (0, 0)) := by rw [← hW0]; exact (blk_old (blk_new (by simp)))
  obtain ⟨c2, f2⟩ := at1 b2
  have Q2 := Lib.hid b2
  clear b2
  have b3 : W0.heap[w.heap.size + 1 + 1 + 1]? = some (.cells #[.bool false] 4 (0, 0)) := by rw [← hW0]; exact (blk_new (by simp))
  obtain ⟨c3, f3⟩ := at1 b3
  have Q3 := Lib.hid b3
  clear b3
  have HB0 := Lib.hid hb0; have HZ := Lib.hid hz0
  clear hb0 hz0
  gi_wp2_with (first
    | (refine ⟨trivial, ?_⟩; gi_at_call 87; refine (IC.out _ _).mono ?_; rintro e w1 ⟨rfl, rfl⟩)
    | fail)
  refine ⟨trivial, ?_⟩
  gi_at_call 30
  refine (RD.out _ _ HB0.out).mono ?_
  rintro e w2 ⟨rfl, hb2⟩
  have hz9 := hb2.size
  have hz8 := HZ.out
  have hl9 : w.heap.size + 1 < w2.heap.size := by omega
  have g1 : w.heap.size < w2.heap.size := by omega
  have g2 : w.heap.size < w2.heap.size + 1 := by omega
  have g3 : w.heap.size < w2.heap.size + 1 + 1 := by omega
  have g4 : ¬ w.heap.size + 1 = w2.heap.size := by omega
  have g5 : ¬ w.heap.size = w2.heap.size := by omega
  have g6 : ¬ w.heap.size = w2.heap.size + 1 := by omega
  have g7 : ¬ w.heap.size = w2.heap.size + 1 + 1 := by omega
  have p0 := (hb2.block _ (by omega)).trans Q0.out
  have p1 := (hb2.block _ (by omega)).trans Q1.out
  have p2 := (hb2.block _ (by omega)).trans Q2.out
  have p3 := (hb2.block _ (by omega)).trans Q3.out
  have a1 := (at1 p1).1
  have HB2 := Lib.hid (HB0.out.trans (hb2.mono HB0.out.size))
  have hn2 : w.heap.size + 4 ≤ w2.heap.size := by omega
  clear hz8 hz9 hb2
  gi_wp2_with (refine ⟨trivial, ?_⟩; gi_at_call 88; refine (SF.out _ _).mono ?_; rintro e w3 ⟨rfl, rfl⟩)
  obtain ⟨W3, hW3⟩ : ∃ W3, ((((((w2.alloc (.cells #[.int .u64 0] 22)).alloc (.cells #[.int .u64 0] 22)).alloc (.cells #[.int .u64 0] 22)).alloc (.cells #[.int .u64 0] 22)).alloc (.cells #[.slice a n c] 53)).alloc (.cells #[.int .u64 t] 22)) = W3 := ⟨_, rfl⟩
  have hb3 : Below w.heap.size w W3 := by
    rw [← hW3]
    exact (((((HB2.out.alloc HB2.out.size _).alloc (by have := HB2.out.size; simp; omega) _).alloc (by have := HB2.out.size; simp; omega) _).alloc (by have := HB2.out.size; simp; omega) _).alloc (by have := HB2.out.size; simp; omega) _).alloc (by have := HB2.out.size; simp; omega) _
  have r2 : W3.heap[w.heap.size + 1 + 1]? = some (.cells #[.int .u64 0] 22 (0, 0)) := by rw [← hW3]; exact (blk_old (blk_old (blk_old (blk_old (blk_old (blk_old p2))))))
  have r3 : W3.heap[w.heap.size + 1 + 1 + 1]? = some (.cells #[.bool false] 4 (0, 0)) := by rw [← hW3]; exact (blk_old (blk_old (blk_old (blk_old (blk_old (blk_old p3))))))
  have s4 : W3.heap[w2.heap.size + 1 + 1 + 1 + 1]? = some (.cells #[.slice a n c] 53 (0, 0)) := by rw [← hW3]; exact (blk_old (blk_new (by simp)))
  have s5 : W3.heap[w2.heap.size + 1 + 1 + 1 + 1 + 1]? = some (.cells #[.int .u64 t] 22 (0, 0)) := by rw [← hW3]; exact (blk_new (by simp))
  rw [hW3]
  have hs1 : w.heap.size ≤ W3.heap.size := hb3.size
  refine range_none rfl (by omega) (gf := 140) (lb := #[.pointer (some ⟨w2.heap.size + 1 + 1 + 1 + 1, 0, none⟩), .pointer (some ⟨w2.heap.size + 1 + 1 + 1 + 1 + 1, 0, none⟩)]) rfl trivial (enters_of Try.func140 (by kernel_rfl) rfl)
    (fun V => V.heap[w.heap.size + 1 + 1]? = some (.cells #[.int .u64 0] 22 (0, 0)) ∧ V.heap[w.heap.size + 1 + 1 + 1]? = some (.cells #[.bool false] 4 (0, 0)) ∧ GIt a n c fs (w2.heap.size + 1 + 1 + 1 + 1) (w2.heap.size + 1 + 1 + 1 + 1 + 1) t V ∧ Below w.heap.size w V)
    ?_ ?_ ?_ ⟨r2, r3, ⟨s4, s5, HR.out.below hb3⟩, hb3⟩
  · rintro - A B' row ⟨h1, h4, h2, h3⟩ hg hrow
    have hb3 := h3.grown hg h3.size (fun k e => Nat.le_trans hs1 (hrow k e).1)
    exact ⟨own_block h1 hg hrow, own_block h4 hg hrow, ⟨own_block h2.l hg hrow, own_block h2.t hg hrow, HR.out.below hb3⟩, hb3⟩
  · rintro l V ⟨h1, h4, h2, h3⟩
    refine (none22 _ hok l V h2).mono ?_
    rintro e V' ⟨hv, hbb⟩
    have st : ∀ {q : Nat} {o : Obj}, V.heap[q]? = some o → V'.heap[q]? = some o := fun h => (hbb.block _ (Array.getElem?_eq_some_iff.1 h).1).trans h
    exact ⟨hv, hbb, st h1, st h4, ⟨st h2.l, st h2.t, h2.row.below hbb⟩, h3.trans (hbb.mono h3.size)⟩
  · rintro D V hD ⟨q1, q2, -, q3⟩ hK
    obtain ⟨x1, x2⟩ := at1 q1
    obtain ⟨x3, x4⟩ := at1 q2
    gi_wp2
    have n1 : w.heap.size + 1 + 1 ≠ D := fun e => by rw [← e, q1] at hK; cases hK
    have n2 : w.heap.size + 1 + 1 + 1 ≠ D := fun e => by rw [← e, q2] at hK; cases hK
    have hK2 : ((V.setCell ⟨w.heap.size + 1 + 1, 0, none⟩ (.int .u64 0)).setCell ⟨w.heap.size + 1 + 1 + 1, 0, none⟩ (.bool false)).heap[D]? = some (.deferred (some [])) := (Below.heap_setCell _ _ _ _ (fun e => n2 e.symm)).trans ((Below.heap_setCell _ _ _ _ (fun e => n1 e.symm)).trans hK)
    have s1 : ((V.setCell ⟨w.heap.size + 1 + 1, 0, none⟩ (.int .u64 0)).setCell ⟨w.heap.size + 1 + 1 + 1, 0, none⟩ (.bool false)).heap[w.heap.size + 1 + 1]? = some (.cells #[.int .u64 0] 22 (0, 0)) := (Below.heap_setCell _ _ _ _ (by simp)).trans (put1_0 q1)
    have s2 : ((V.setCell ⟨w.heap.size + 1 + 1, 0, none⟩ (.int .u64 0)).setCell ⟨w.heap.size + 1 + 1 + 1, 0, none⟩ (.bool false)).heap[w.heap.size + 1 + 1 + 1]? = some (.cells #[.bool false] 4 (0, 0)) := put1_0 ((Below.heap_setCell _ _ _ _ (by simp)).trans q2)
    have e1 := cell_of_row _ (w.heap.size + 1 + 1) 0 _ _ (0, 0) ((World.putObj_heap_other (o := .deferred none) n1).trans s1)
    have e2 := cell_of_row _ (w.heap.size + 1 + 1 + 1) 0 _ _ (0, 0) ((World.putObj_heap_other (o := .deferred none) n2).trans s2)
    have hbs := (q3.setCell (p := ⟨w.heap.size + 1 + 1, 0, none⟩) (by simp <;> omega) (.int .u64 0)).setCell (p := ⟨w.heap.size + 1 + 1 + 1, 0, none⟩) (by simp <;> omega) (.bool false)
    refine ⟨by simp, .inl ⟨_, _, rfl, run_takeDeferred hK2, ?_⟩⟩
    exact ⟨.tuple #[.int .u64 0, .bool false], by simp [results, Try.results28, go_sem, e1, e2], rfl, hbs.trans (belowK_b (w := W3) hs1 _ D _ (.deferred none) hD hK2 rfl rfl)⟩
set_option maxRecDepth 100000 in
set_option maxHeartbeats 4000000 in
theorem gnext22_nob {w : World} {a : Option Addr} {n c : Nat} {fs : List Slot22} (hr : RowSl w a n fs) (hok : ¬ PlanOk fs n) (cl : Nat) (hcl : cl ≤ 7) (t : Int) (t1 : t ≤ 9223372036854775808) (need : Int) (need0 : 1 ≤ need) :
    Calls Try.prog 28 #[.slice a n c, .int .i64 cl, .int .u64 t, .int .u64 need] w fun e w' => e = .returned (.tuple #[.int .u64 0, .bool false]) ∧ Below w.heap.size w w' := by
  have SF := Lib.hid (fun (m : Nat) (W : World) => (callsIn_wide (n := m)).2 (sfrom22 a n c t W))
  have IC := Lib.hid (fun (m : Nat) (W : World) => (callsIn_wide (n := m)).2 (isclass22 cl hcl W))
  have RD := Lib.hid (fun (m : Nat) (W : World) (h : Below w.heap.size w W) => (callsIn_wide (n := m)).2 (ground22_no (hr.below h) c hok))
  have HR := Lib.hid hr
  clear hr
  have ntl : ¬ 9223372036854775808 < t := by omega
  have f1 : ¬ need < 1 := by omega
  have f2 : max need 1 = need := by omega
  have f3 : min need 0 = 0 := by omega
  have f4 : ¬ need ≤ 0 := by omega
  have f5 : 0 ≤ need := by omega
  have f6 : 0 < need := by omega
  have f7 : ¬ need < 0 := by omega
  refine (callsIn_wide (n := 4)).1 ?_
  refine callsIn_of_wp_marks Try.func28 rfl trivial ?_ rfl
  simp only [Try.ntmps28, List.size_toArray, List.length_cons, List.length_nil, Nat.reduceAdd, Nat.reduceSub, Array.replicate_succ, Array.replicate_zero, List.push_toArray, List.append_toArray, List.nil_append, List.cons_append]
  obtain ⟨W0, hW0⟩ : ∃ W0, ((((w.alloc (.cells #[.int .i64 cl] 3)).alloc (.cells #[.int .u64 t] 22)).alloc (.cells #[.int .u64 0] 22)).alloc (.cells #[.bool false] 4)) = W0 := ⟨_, rfl⟩
  have hb0 : Below w.heap.size w W0 := by rw [← hW0]; exact (((((Below.refl _ w).alloc (by simp <;> omega) _).alloc (by simp <;> omega) _).alloc (by simp <;> omega) _).alloc (by simp <;> omega) _)
  have hz0 : W0.heap.size = w.heap.size + 4 := by rw [← hW0]; simp
  have b0 : W0.heap[w.heap.size]? = some (.cells #[.int .i64 cl] 3 (0, 0)) := by rw [← hW0]; exact (blk_old (blk_old (blk_old (blk_new (by simp)))))
  obtain ⟨c0, f0⟩ := at1 b0
  have Q0 := Lib.hid b0
  clear b0
  have b1 : W0.heap[w.heap.size + 1]? = some (.cells #[.int .u64 t] 22 (0, 0)) := by rw [← hW0]; exact (blk_old (blk_old (blk_new (by simp))))
  obtain ⟨c1, f1⟩ := at1 b1
  have Q1 := Lib.hid b1
  clear b1
  have b2 : W0.heap[w.heap.size + 1 + 1]? = some (.cells #[.int .u64 0] 22 (0, 0)) := by rw [← hW0]; exact (blk_old (blk_new (by simp)))
  obtain ⟨c2, f2⟩ := at1 b2
  have Q2 := Lib.hid b2
  clear b2
  have b3 : W0.heap[w.heap.size + 1 + 1 + 1]? = some (.cells #[.bool false] 4 (0, 0)) := by rw [← hW0]; exact (blk_new (by simp))
  obtain ⟨c3, f3⟩ := at1 b3
  have Q3 := Lib.hid b3
  clear b3
  have HB0 := Lib.hid hb0; have HZ := Lib.hid hz0
  clear hb0 hz0
  gi_wp2_with (first
    | (refine ⟨trivial, ?_⟩; gi_at_call 87; refine (IC.out _ _).mono ?_; rintro e w1 ⟨rfl, rfl⟩)
    | fail)
  refine ⟨trivial, ?_⟩
  gi_at_call 30
  refine (RD.out _ _ HB0.out).mono ?_
  rintro e w2 ⟨rfl, hb2⟩
  have hz9 := hb2.size
  have hz8 := HZ.out
  have hl9 : w.heap.size + 1 < w2.heap.size := by omega
  have g1 : w.heap.size < w2.heap.size := by omega
  have g2 : w.heap.size < w2.heap.size + 1 := by omega
  have g3 : w.heap.size < w2.heap.size + 1 + 1 := by omega
  have g4 : ¬ w.heap.size + 1 = w2.heap.size := by omega
  have g5 : ¬ w.heap.size = w2.heap.size := by omega
  have g6 : ¬ w.heap.size = w2.heap.size + 1 := by omega
  have g7 : ¬ w.heap.size = w2.heap.size + 1 + 1 := by omega
  have p0 := (hb2.block _ (by omega)).trans Q0.out
  have p1 := (hb2.block _ (by omega)).trans Q1.out
  have p2 := (hb2.block _ (by omega)).trans Q2.out
  have p3 := (hb2.block _ (by omega)).trans Q3.out
  have a1 := (at1 p1).1
  have HB2 := Lib.hid (HB0.out.trans (hb2.mono HB0.out.size))
  have hn2 : w.heap.size + 4 ≤ w2.heap.size := by omega
  clear hz8 hz9 hb2
  gi_wp2_with (refine ⟨trivial, ?_⟩; gi_at_call 88; refine (SF.out _ _).mono ?_; rintro e w3 ⟨rfl, rfl⟩)
  obtain ⟨W3, hW3⟩ : ∃ W3, ((((((w2.alloc (.cells #[.int .u64 0] 22)).alloc (.cells #[.int .u64 0] 22)).alloc (.cells #[.int .u64 0] 22)).alloc (.cells #[.int .u64 0] 22)).alloc (.cells #[.slice a n c] 53)).alloc (.cells #[.int .u64 t] 22)) = W3 := ⟨_, rfl⟩
  have hb3 : Below w.heap.size w W3 := by
    rw [← hW3]
    exact (((((HB2.out.alloc HB2.out.size _).alloc (by have := HB2.out.size; simp; omega) _).alloc (by have := HB2.out.size; simp; omega) _).alloc (by have := HB2.out.size; simp; omega) _).alloc (by have := HB2.out.size; simp; omega) _).alloc (by have := HB2.out.size; simp; omega) _
  have r2 : W3.heap[w.heap.size + 1 + 1]? = some (.cells #[.int .u64 0] 22 (0, 0)) := by rw [← hW3]; exact (blk_old (blk_old (blk_old (blk_old (blk_old (blk_old p2))))))
  have r3 : W3.heap[w.heap.size + 1 + 1 + 1]? = some (.cells #[.bool false] 4 (0, 0)) := by rw [← hW3]; exact (blk_old (blk_old (blk_old (blk_old (blk_old (blk_old p3))))))
  have s4 : W3.heap[w2.heap.size + 1 + 1 + 1 + 1]? = some (.cells #[.slice a n c] 53 (0, 0)) := by rw [← hW3]; exact (blk_old (blk_new (by simp)))
  have s5 : W3.heap[w2.heap.size + 1 + 1 + 1 + 1 + 1]? = some (.cells #[.int .u64 t] 22 (0, 0)) := by rw [← hW3]; exact (blk_new (by simp))
  rw [hW3]
  have hs1 : w.heap.size ≤ W3.heap.size := hb3.size
  refine range_none rfl (by omega) (gf := 140) (lb := #[.pointer (some ⟨w2.heap.size + 1 + 1 + 1 + 1, 0, none⟩), .pointer (some ⟨w2.heap.size + 1 + 1 + 1 + 1 + 1, 0, none⟩)]) rfl trivial (enters_of Try.func140 (by kernel_rfl) rfl)
    (fun V => V.heap[w.heap.size + 1 + 1]? = some (.cells #[.int .u64 0] 22 (0, 0)) ∧ V.heap[w.heap.size + 1 + 1 + 1]? = some (.cells #[.bool false] 4 (0, 0)) ∧ GIt a n c fs (w2.heap.size + 1 + 1 + 1 + 1) (w2.heap.size + 1 + 1 + 1 + 1 + 1) t V ∧ Below w.heap.size w V)
    ?_ ?_ ?_ ⟨r2, r3, ⟨s4, s5, HR.out.below hb3⟩, hb3⟩
  · rintro - A B' row ⟨h1, h4, h2, h3⟩ hg hrow
    have hb3 := h3.grown hg h3.size (fun k e => Nat.le_trans hs1 (hrow k e).1)
    exact ⟨own_block h1 hg hrow, own_block h4 hg hrow, ⟨own_block h2.l hg hrow, own_block h2.t hg hrow, HR.out.below hb3⟩, hb3⟩
  · rintro l V ⟨h1, h4, h2, h3⟩
    refine (none22 _ hok l V h2).mono ?_
    rintro e V' ⟨hv, hbb⟩
    have st : ∀ {q : Nat} {o : Obj}, V.heap[q]? = some o → V'.heap[q]? = some o := fun h => (hbb.block _ (Array.getElem?_eq_some_iff.1 h).1).trans h
    exact ⟨hv, hbb, st h1, st h4, ⟨st h2.l, st h2.t, h2.row.below hbb⟩, h3.trans (hbb.mono h3.size)⟩
  · rintro D V hD ⟨q1, q2, -, q3⟩ hK
    obtain ⟨x1, x2⟩ := at1 q1
    obtain ⟨x3, x4⟩ := at1 q2
    gi_wp2
    have n1 : w.heap.size + 1 + 1 ≠ D := fun e => by rw [← e, q1] at hK; cases hK
    have n2 : w.heap.size + 1 + 1 + 1 ≠ D := fun e => by rw [← e, q2] at hK; cases hK
    have hK2 : ((V.setCell ⟨w.heap.size + 1 + 1, 0, none⟩ (.int .u64 0)).setCell ⟨w.heap.size + 1 + 1 + 1, 0, none⟩ (.bool false)).heap[D]? = some (.deferred (some [])) := (Below.heap_setCell _ _ _ _ (fun e => n2 e.symm)).trans ((Below.heap_setCell _ _ _ _ (fun e => n1 e.symm)).trans hK)
    have s1 : ((V.setCell ⟨w.heap.size + 1 + 1, 0, none⟩ (.int .u64 0)).setCell ⟨w.heap.size + 1 + 1 + 1, 0, none⟩ (.bool false)).heap[w.heap.size + 1 + 1]? = some (.cells #[.int .u64 0] 22 (0, 0)) := (Below.heap_setCell _ _ _ _ (by simp)).trans (put1_0 q1)
    have s2 : ((V.setCell ⟨w.heap.size + 1 + 1, 0, none⟩ (.int .u64 0)).setCell ⟨w.heap.size + 1 + 1 + 1, 0, none⟩ (.bool false)).heap[w.heap.size + 1 + 1 + 1]? = some (.cells #[.bool false] 4 (0, 0)) := put1_0 ((Below.heap_setCell _ _ _ _ (by simp)).trans q2)
    have e1 := cell_of_row _ (w.heap.size + 1 + 1) 0 _ _ (0, 0) ((World.putObj_heap_other (o := .deferred none) n1).trans s1)
    have e2 := cell_of_row _ (w.heap.size + 1 + 1 + 1) 0 _ _ (0, 0) ((World.putObj_heap_other (o := .deferred none) n2).trans s2)
    have hbs := (q3.setCell (p := ⟨w.heap.size + 1 + 1, 0, none⟩) (by simp <;> omega) (.int .u64 0)).setCell (p := ⟨w.heap.size + 1 + 1 + 1, 0, none⟩) (by simp <;> omega) (.bool false)
    refine ⟨by simp, .inl ⟨_, _, rfl, run_takeDeferred hK2, ?_⟩⟩
    exact ⟨.tuple #[.int .u64 0, .bool false], by simp [results, Try.results28, go_sem, e1, e2], rfl, hbs.trans (belowK_b (w := W3) hs1 _ D _ (.deferred none) hD hK2 rfl rfl)⟩
theorem gnext22_no {w : World} {a : Option Addr} {n c : Nat} {fs : List Slot22} (hr : RowSl w a n fs) (hok : ¬ PlanOk fs n) (cl : Nat) (hcl : cl ≤ 7) (t : Int) (t1 : t ≤ 9223372036854775808) (need : Int) :
    Calls Try.prog 28 #[.slice a n c, .int .i64 cl, .int .u64 t, .int .u64 need] w fun e w' => e = .returned (.tuple #[.int .u64 0, .bool false]) ∧ Below w.heap.size w w' := by
  by_cases h : need < 1
  · exact gnext22_noa hr hok cl hcl t t1 need h
  · exact gnext22_nob hr hok cl hcl t t1 need (by omega)
end Go.Proofs.Ytmkgadndfiiacaa
