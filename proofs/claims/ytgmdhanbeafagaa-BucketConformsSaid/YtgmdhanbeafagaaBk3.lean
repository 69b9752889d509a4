/-
  The example of layer 20, walked: true. The laws on ticks in two parts, and on who waits: true for any bucket. No condition.
-/
import Derived.Test.YtgmdhanbeafagaaBk2
import Derived.Laws.StructEq
import Derived.RegionTactic
namespace Go.Proofs.Ytgmdhanbeafagaa
set_option linter.unusedVariables false
set_option linter.unusedSimpArgs false
open Go.ChangeShapes Go.WideShapes Go.ChangeAt Go.RowKit
attribute [local go_sem] alloc_drewN setCell_drewN

theorem vw (r b t : Int) : (BK.mk r b t).val = .agg #[.int .u64 r, .int .u64 b, .int .u64 t] := rfl
theorem wd3 {r b t : Int} (h : (0 ≤ r ∧ r ≤ 18446744073709551615) ∧ (0 ≤ b ∧ b ≤ 18446744073709551615) ∧ 0 ≤ t ∧ t ≤ 18446744073709551615) : BK.wd ⟨r, b, t⟩ := h
set_option maxRecDepth 100000 in
set_option maxHeartbeats 1000000 in
theorem lives20 (w : World) : Calls Try.prog 26 #[] w fun e w' => e = .returned (.bool true) ∧ Below w.heap.size w w' := by
  have NW := Lib.hid (fun W => bk_new 3 10 W)
  rw [show bck 3 10 10 = 0 from by decide, if_pos rfl] at NW
  have TK := Lib.hid (fun W => bk_take ⟨3, 10, 10⟩ (wd3 (by decide)) 10 (by decide) (by decide) W)
  rw [show BK.take ⟨3, 10, 10⟩ 10 = (⟨3, 10, 0⟩, true) from by decide] at TK
  have WT := Lib.hid (fun W => bk_wait ⟨3, 10, 0⟩ (wd3 (by decide)) 7 (by decide) (by decide) W)
  rw [show BK.wait ⟨3, 10, 0⟩ 7 = (3, true) from by decide] at WT
  have TI := Lib.hid (fun W => bk_tick ⟨3, 10, 0⟩ (wd3 (by decide)) 3 (by decide) (by decide) W)
  rw [show BK.tick ⟨3, 10, 0⟩ 3 = ⟨3, 10, 9⟩ from by decide] at TI
  simp only [vw] at TK WT TI
  go_enter Try.func26, Try.ntmps26
  have hfd : ∀ W : World, (Instr.field 25 (.agg #[.int .u64 3, .int .u64 10, .int .u64 9]) 2).run Try.prog W = .ok (.int .u64 9) W := fun _ => by kernel_rfl
  go_wp2_with fail
  refine (NW.out _).mono ?_
  rintro e w0 ⟨rfl, bb⟩
  have HB0 := Lib.hid bb
  clear bb
  go_wp2_with fail
  refine cl_gen ?_
  intro v0 hv0
  have XB : Below w.heap.size w v0 := by
    rw [hv0]
    (repeat' (first | (with_reducible exact HB0.out) | exact Below.refl _ _ | refine below_drewN _ ?_ | refine Below.drew ?_ | refine Below.setCell ?_ (by first | (simp; done) | omega) _ | refine Below.alloc ?_ (by have := HB0.out.size; simp; omega) _))
  have Xb : v0.heap[w0.heap.size]? = some (.cells #[.int .u64 3, .int .u64 10, .int .u64 10] 25 (0, 0)) := by
    rw [hv0]
    (repeat' (first | (with_reducible exact heap_alloc_new _ _) | (with_reducible exact blk_new (by first | (simp; done) | omega)) | (with_reducible refine blk_drew ?_) | (with_reducible apply put1_0) | (with_reducible apply put2_0) | (with_reducible apply put2_1) | (with_reducible apply put3_0) | (with_reducible apply put3_1) | (with_reducible apply put3_2) | (with_reducible apply put4_0) | (with_reducible apply put4_1) | (with_reducible apply put4_2) | (with_reducible apply put4_3) | (with_reducible apply put5_0) | (with_reducible apply put5_1) | (with_reducible apply put5_2) | (with_reducible apply put5_3) | (with_reducible apply put5_4) | (with_reducible apply put6_0) | (with_reducible apply put6_1) | (with_reducible apply put6_2) | (with_reducible apply put6_3) | (with_reducible apply put6_4) | (with_reducible apply put6_5) | (with_reducible refine blk_else (by omega) ?_) | (with_reducible refine blk_old ?_)))
  obtain ⟨Bb, hBb⟩ : ∃ x, x = w0.heap.size := ⟨_, rfl⟩
  rw [← hBb] at Xb
  try rw [← hBb]
  have leb : w.heap.size ≤ Bb := by have := HB0.out.size; omega
  clear hBb
  clear hv0 HB0
  refine (TK.out _).mono ?_
  rintro e w1 ⟨rfl, bb⟩
  have Hb1 := Lib.hid (blk_call bb Xb)
  have HB1 := Lib.hid (bel_onto XB bb XB.size)
  clear Xb XB bb
  obtain ⟨b0_, b1_, b2_, bf0_, bf1_, bf2_⟩ := at3 Hb1.out
  go_wp2_with fail
  refine cl_gen ?_
  intro v1 hv1
  have Xb : v1.heap[Bb]? = some (.cells #[.int .u64 3, .int .u64 10, .int .u64 0] 25 (0, 0)) := by
    rw [hv1]
    (repeat' (first | (with_reducible exact Hb1.out) | (with_reducible exact heap_alloc_new _ _) | (with_reducible exact blk_new (by first | (simp; done) | omega)) | (with_reducible refine blk_drew ?_) | (with_reducible apply put1_0) | (with_reducible apply put2_0) | (with_reducible apply put2_1) | (with_reducible apply put3_0) | (with_reducible apply put3_1) | (with_reducible apply put3_2) | (with_reducible apply put4_0) | (with_reducible apply put4_1) | (with_reducible apply put4_2) | (with_reducible apply put4_3) | (with_reducible apply put5_0) | (with_reducible apply put5_1) | (with_reducible apply put5_2) | (with_reducible apply put5_3) | (with_reducible apply put5_4) | (with_reducible apply put6_0) | (with_reducible apply put6_1) | (with_reducible apply put6_2) | (with_reducible apply put6_3) | (with_reducible apply put6_4) | (with_reducible apply put6_5) | (with_reducible refine blk_else (by omega) ?_) | (with_reducible refine blk_old ?_)))
  have XB : Below w.heap.size w v1 := by
    rw [hv1]
    (repeat' (first | (with_reducible exact HB1.out) | exact Below.refl _ _ | refine below_drewN _ ?_ | refine Below.drew ?_ | refine Below.setCell ?_ (by first | (simp; done) | omega) _ | refine Below.alloc ?_ (by have := HB1.out.size; simp; omega) _))
  clear b0_ b1_ b2_ bf0_ bf1_ bf2_
  clear hv1 Hb1 HB1
  refine (WT.out _).mono ?_
  rintro e w2 ⟨rfl, bb⟩
  have Hb2 := Lib.hid (blk_call bb Xb)
  have HB2 := Lib.hid (bel_onto XB bb XB.size)
  clear Xb XB bb
  obtain ⟨b0_, b1_, b2_, bf0_, bf1_, bf2_⟩ := at3 Hb2.out
  go_wp2_with fail
  refine cl_gen ?_
  intro v2 hv2
  have Xb : v2.heap[Bb]? = some (.cells #[.int .u64 3, .int .u64 10, .int .u64 0] 25 (0, 0)) := by
    rw [hv2]
    (repeat' (first | (with_reducible exact Hb2.out) | (with_reducible exact heap_alloc_new _ _) | (with_reducible exact blk_new (by first | (simp; done) | omega)) | (with_reducible refine blk_drew ?_) | (with_reducible apply put1_0) | (with_reducible apply put2_0) | (with_reducible apply put2_1) | (with_reducible apply put3_0) | (with_reducible apply put3_1) | (with_reducible apply put3_2) | (with_reducible apply put4_0) | (with_reducible apply put4_1) | (with_reducible apply put4_2) | (with_reducible apply put4_3) | (with_reducible apply put5_0) | (with_reducible apply put5_1) | (with_reducible apply put5_2) | (with_reducible apply put5_3) | (with_reducible apply put5_4) | (with_reducible apply put6_0) | (with_reducible apply put6_1) | (with_reducible apply put6_2) | (with_reducible apply put6_3) | (with_reducible apply put6_4) | (with_reducible apply put6_5) | (with_reducible refine blk_else (by omega) ?_) | (with_reducible refine blk_old ?_)))
  have XB : Below w.heap.size w v2 := by
    rw [hv2]
    (repeat' (first | (with_reducible exact HB2.out) | exact Below.refl _ _ | refine below_drewN _ ?_ | refine Below.drew ?_ | refine Below.setCell ?_ (by first | (simp; done) | omega) _ | refine Below.alloc ?_ (by have := HB2.out.size; simp; omega) _))
  clear b0_ b1_ b2_ bf0_ bf1_ bf2_
  clear hv2 Hb2 HB2
  refine (TI.out _).mono ?_
  rintro e w3 ⟨rfl, bb⟩
  have Hb3 := Lib.hid (blk_call bb Xb)
  have HB3 := Lib.hid (bel_onto XB bb XB.size)
  clear Xb XB bb
  obtain ⟨b0_, b1_, b2_, bf0_, bf1_, bf2_⟩ := at3 Hb3.out
  clear b0_ b1_ b2_ bf0_ bf1_ bf2_
  go_wp2
  go_ret
  exact ⟨rfl, HB3.out⟩
end Go.Proofs.Ytgmdhanbeafagaa
