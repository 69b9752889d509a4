/-
  The example of layer 23, walked: true. The law on how little and how much credit a class has: true for any packets. No condition.
-/
import Derived.Test.YtcieggckmpabnaaCr2
import Derived.Test.YtcieggckmpabnaaCr3
import Derived.Test.YtcieggckmpabnaaOpen23
import Derived.StillTailTactics
import Derived.Deep.DeepCutAuto
namespace Go.Proofs.Ytcieggckmpabnaa
set_option linter.unusedVariables false
set_option linter.unusedSimpArgs false
open Go.ChangeShapes Go.WideShapes Go.ChangeAt Go.RowKit
attribute [local go_sem] alloc_drewN setCell_drewN

set_option maxRecDepth 100000 in
set_option maxHeartbeats 4000000 in
theorem lives23 (w : World) : Calls Try.prog 55 #[] w fun e w' => e = .returned (.bool true) ∧ Below w.heap.size w w' := by
  have NW := Lib.hid (fun W => cr_new 2 1 10 W)
  rw [show cre 2 1 10 0 = 0 from by decide, if_pos rfl] at NW
  have ST := Lib.hid (fun W => cr_sent ⟨2, 1, 10, 0⟩ 9 (by decide) (by decide) W)
  rw [show CD.sent ⟨2, 1, 10, 0⟩ 9 = (⟨2, 1, 10, -9⟩, true) from by decide] at ST
  have WT := Lib.hid (fun W => cr_wait ⟨2, 1, 10, -9⟩ W)
  rw [show CD.wait ⟨2, 1, 10, -9⟩ = 5 from by decide] at WT
  have TI := Lib.hid (fun W => cr_tick ⟨2, 1, 10, -9⟩ 4 (by decide) (by decide) true W)
  rw [show CD.tick ⟨2, 1, 10, -9⟩ 4 true = ⟨2, 1, 10, -1⟩ from by decide] at TI
  have MY := Lib.hid (fun W => cr_may ⟨2, 1, 10, -1⟩ W)
  rw [show CD.may ⟨2, 1, 10, -1⟩ = false from by decide] at MY
  simp only [cd_val] at ST WT TI MY
  have hfd : ∀ W : World, (Instr.field 123 (.agg #[.int .i64 2, .int .i64 1, .int .i64 10, .int .i64 (-1)]) 3).run Try.prog W = .ok (.int .i64 (-1)) W := fun _ => by kernel_rfl
  go_enter Try.func55, Try.ntmps55
  go_wp2_with fail
  refine (NW.out _).mono ?_
  rintro e w0 ⟨rfl, bb⟩
  have HB0 := Lib.hid bb
  clear bb
  go_wp2_with fail
  refine cl_gen ?_
  intro v0 hv0
  have XB : Below w.heap.size w v0 := by
    rw [hv0]
    (repeat' (first | (with_reducible exact HB0.out) | (with_reducible exact Below.refl _ _) | (with_reducible refine below_drewN _ ?_) | (with_reducible refine Below.drew ?_) | (with_reducible refine Below.setCell ?_ (by first | (simp; done) | omega) _) | (with_reducible refine Below.alloc ?_ (by have := HB0.out.size; simp; omega) _)))
  have Xc : v0.heap[w0.heap.size]? = some (.cells #[.int .i64 2, .int .i64 1, .int .i64 10, .int .i64 0] 123 (0, 0)) := by
    rw [hv0]
    (repeat' (first | (with_reducible exact heap_alloc_new _ _) | (with_reducible exact blk_new (by first | (simp; done) | omega)) | (with_reducible refine blk_drew ?_) | (with_reducible apply put4_0) | (with_reducible apply put4_1) | (with_reducible apply put4_2) | (with_reducible apply put4_3) | (with_reducible refine blk_else (by omega) ?_) | (with_reducible refine blk_old ?_)))
  obtain ⟨Bc, hBc⟩ : ∃ x, x = w0.heap.size := ⟨_, rfl⟩
  rw [← hBc] at Xc
  try rw [← hBc]
  have lec : w.heap.size ≤ Bc := by have := HB0.out.size; omega
  clear hBc
  clear hv0 HB0
  refine (ST.out _).mono ?_
  rintro e w1 ⟨rfl, bb⟩
  have Hc1 := Lib.hid (blk_call bb Xc)
  have HB1 := Lib.hid (bel_onto XB bb XB.size)
  clear Xc XB bb
  obtain ⟨c0_, c1_, c2_, c3_, cf0_, cf1_, cf2_, cf3_⟩ := at4 Hc1.out
  have cn_ := ne_blk Hc1.out
  have cm_ := Ne.symm (a := Bc) cn_
  have cl_ := lt_blk Hc1.out
  go_wp2_with fail
  refine cl_gen ?_
  intro v1 hv1
  have Xc : v1.heap[Bc]? = some (.cells #[.int .i64 2, .int .i64 1, .int .i64 10, .int .i64 (-9)] 123 (0, 0)) := by
    rw [hv1]
    (repeat' (first | (with_reducible exact Hc1.out) | (with_reducible exact heap_alloc_new _ _) | (with_reducible exact blk_new (by first | (simp; done) | omega)) | (with_reducible refine blk_drew ?_) | (with_reducible apply put4_0) | (with_reducible apply put4_1) | (with_reducible apply put4_2) | (with_reducible apply put4_3) | (with_reducible refine blk_else (by omega) ?_) | (with_reducible refine blk_old ?_)))
  have XB : Below w.heap.size w v1 := by
    rw [hv1]
    (repeat' (first | (with_reducible exact HB1.out) | (with_reducible exact Below.refl _ _) | (with_reducible refine below_drewN _ ?_) | (with_reducible refine Below.drew ?_) | (with_reducible refine Below.setCell ?_ (by first | (simp; done) | omega) _) | (with_reducible refine Below.alloc ?_ (by have := HB1.out.size; simp; omega) _)))
  clear c0_ c1_ c2_ c3_ cf0_ cf1_ cf2_ cf3_ cn_ cm_ cl_
  clear hv1 Hc1 HB1
  refine (WT.out _).mono ?_
  rintro e w2 ⟨rfl, bb⟩
  have Hc2 := Lib.hid (blk_call bb Xc)
  have HB2 := Lib.hid (bel_onto XB bb XB.size)
  clear Xc XB bb
  obtain ⟨c0_, c1_, c2_, c3_, cf0_, cf1_, cf2_, cf3_⟩ := at4 Hc2.out
  have cn_ := ne_blk Hc2.out
  have cm_ := Ne.symm (a := Bc) cn_
  have cl_ := lt_blk Hc2.out
  go_wp2_with fail
  refine cl_gen ?_
  intro v2 hv2
  have Xc : v2.heap[Bc]? = some (.cells #[.int .i64 2, .int .i64 1, .int .i64 10, .int .i64 (-9)] 123 (0, 0)) := by
    rw [hv2]
    (repeat' (first | (with_reducible exact Hc2.out) | (with_reducible exact heap_alloc_new _ _) | (with_reducible exact blk_new (by first | (simp; done) | omega)) | (with_reducible refine blk_drew ?_) | (with_reducible apply put4_0) | (with_reducible apply put4_1) | (with_reducible apply put4_2) | (with_reducible apply put4_3) | (with_reducible refine blk_else (by omega) ?_) | (with_reducible refine blk_old ?_)))
  have XB : Below w.heap.size w v2 := by
    rw [hv2]
    (repeat' (first | (with_reducible exact HB2.out) | (with_reducible exact Below.refl _ _) | (with_reducible refine below_drewN _ ?_) | (with_reducible refine Below.drew ?_) | (with_reducible refine Below.setCell ?_ (by first | (simp; done) | omega) _) | (with_reducible refine Below.alloc ?_ (by have := HB2.out.size; simp; omega) _)))
  clear c0_ c1_ c2_ c3_ cf0_ cf1_ cf2_ cf3_ cn_ cm_ cl_
  clear hv2 Hc2 HB2
  refine (TI.out _).mono ?_
  rintro e w3 ⟨rfl, bb⟩
  have Hc3 := Lib.hid (blk_call bb Xc)
  have HB3 := Lib.hid (bel_onto XB bb XB.size)
  clear Xc XB bb
  obtain ⟨c0_, c1_, c2_, c3_, cf0_, cf1_, cf2_, cf3_⟩ := at4 Hc3.out
  have cn_ := ne_blk Hc3.out
  have cm_ := Ne.symm (a := Bc) cn_
  have cl_ := lt_blk Hc3.out
  go_wp2_with fail
  refine cl_gen ?_
  intro v3 hv3
  have Xc : v3.heap[Bc]? = some (.cells #[.int .i64 2, .int .i64 1, .int .i64 10, .int .i64 (-9)] 123 (0, 0)) := by
    rw [hv3]
    (repeat' (first | (with_reducible exact Hc3.out) | (with_reducible exact heap_alloc_new _ _) | (with_reducible exact blk_new (by first | (simp; done) | omega)) | (with_reducible refine blk_drew ?_) | (with_reducible apply put4_0) | (with_reducible apply put4_1) | (with_reducible apply put4_2) | (with_reducible apply put4_3) | (with_reducible refine blk_else (by omega) ?_) | (with_reducible refine blk_old ?_)))
  have XB : Below w.heap.size w v3 := by
    rw [hv3]
    (repeat' (first | (with_reducible exact HB3.out) | (with_reducible exact Below.refl _ _) | (with_reducible refine below_drewN _ ?_) | (with_reducible refine Below.drew ?_) | (with_reducible refine Below.setCell ?_ (by first | (simp; done) | omega) _) | (with_reducible refine Below.alloc ?_ (by have := HB3.out.size; simp; omega) _)))
  clear c0_ c1_ c2_ c3_ cf0_ cf1_ cf2_ cf3_ cn_ cm_ cl_
  clear hv3 Hc3 HB3
  refine (MY.out _).mono ?_
  rintro e w4 ⟨rfl, bb⟩
  have Hc4 := Lib.hid (blk_call bb Xc)
  have HB4 := Lib.hid (bel_onto XB bb XB.size)
  clear Xc XB bb
  obtain ⟨c0_, c1_, c2_, c3_, cf0_, cf1_, cf2_, cf3_⟩ := at4 Hc4.out
  have cn_ := ne_blk Hc4.out
  have cm_ := Ne.symm (a := Bc) cn_
  have cl_ := lt_blk Hc4.out
  go_wp2_with fail
  refine cl_gen ?_
  intro v4 hv4
  have Xc : v4.heap[Bc]? = some (.cells #[.int .i64 2, .int .i64 1, .int .i64 10, .int .i64 (-9)] 123 (0, 0)) := by
    rw [hv4]
    (repeat' (first | (with_reducible exact Hc4.out) | (with_reducible exact heap_alloc_new _ _) | (with_reducible exact blk_new (by first | (simp; done) | omega)) | (with_reducible refine blk_drew ?_) | (with_reducible apply put4_0) | (with_reducible apply put4_1) | (with_reducible apply put4_2) | (with_reducible apply put4_3) | (with_reducible refine blk_else (by omega) ?_) | (with_reducible refine blk_old ?_)))
  have XB : Below w.heap.size w v4 := by
    rw [hv4]
    (repeat' (first | (with_reducible exact HB4.out) | (with_reducible exact Below.refl _ _) | (with_reducible refine below_drewN _ ?_) | (with_reducible refine Below.drew ?_) | (with_reducible refine Below.setCell ?_ (by first | (simp; done) | omega) _) | (with_reducible refine Below.alloc ?_ (by have := HB4.out.size; simp; omega) _)))
  clear c0_ c1_ c2_ c3_ cf0_ cf1_ cf2_ cf3_ cn_ cm_ cl_
  clear hv4 Hc4 HB4
  refine (TI.out _).mono ?_
  rintro e w5 ⟨rfl, bb⟩
  have Hc5 := Lib.hid (blk_call bb Xc)
  have HB5 := Lib.hid (bel_onto XB bb XB.size)
  clear Xc XB bb
  obtain ⟨c0_, c1_, c2_, c3_, cf0_, cf1_, cf2_, cf3_⟩ := at4 Hc5.out
  have cn_ := ne_blk Hc5.out
  have cm_ := Ne.symm (a := Bc) cn_
  have cl_ := lt_blk Hc5.out
  clear c0_ c1_ c2_ c3_ cf0_ cf1_ cf2_ cf3_ cn_ cm_ cl_
  go_wp2
  go_ret
  exact ⟨rfl, HB5.out⟩
structure RemOk (a b : Int) : Prop where
  nz : b ≠ 0
  fit : IntKind.u64.wrap (a.tmod b) = a.tmod b
theorem rem_ok {P : Program} {w : World} {t : TypeId} {a b : Int} (h : RemOk a b) : (binOp .rem t (.int .u64 a) (.int .u64 b)).run P w = .ok (.int .u64 (a.tmod b)) w := by
  rw [binOp_rem]
  unfold Op.intDiv
  rw [if_neg h.nz]
  simp only [h.fit]
  rfl
/-- A class that may be, and has no less than what a packet costs below nought. -/
theorem tick_least {i s h v x L : Int} (b : Bool) (hk : CD.ok ⟨i, s, h, v⟩) (hx : 0 ≤ x) (hL : -L ≤ v) (h0 : 0 ≤ L) :
    ∃ v1, CD.tick ⟨i, s, h, v⟩ x b = ⟨i, s, h, v1⟩ ∧ CD.ok ⟨i, s, h, v1⟩ ∧ -L ≤ v1 := by
  obtain ⟨⟨i0, i1⟩, ⟨s0, s1⟩, ⟨h0_, h1⟩, v0, v1⟩ := id hk
  dsimp only at i0 i1 s0 s1 h0_ h1 v0 v1
  have p : 0 ≤ i * x := Int.mul_nonneg (by omega) hx
  refine ⟨_, if_pos hk, ⟨⟨i0, i1⟩, ⟨s0, s1⟩, ⟨h0_, h1⟩, ?_, ?_⟩, ?_⟩ <;> dsimp only <;> generalize i * x = P at * <;> cases b <;> simp only [if_true, Bool.false_eq_true, if_false] <;> (try split) <;> omega
theorem sent_least {i s h v k m : Int} (hk : CD.ok ⟨i, s, h, v⟩) (k0 : 0 ≤ k) (km : k ≤ m) (m1 : m ≤ 65535) (hL : -(s * m) ≤ v) :
    ∃ v2 q, CD.sent ⟨i, s, h, v⟩ k = (⟨i, s, h, v2⟩, q) ∧ CD.ok ⟨i, s, h, v2⟩ ∧ -(s * m) ≤ v2 := by
  obtain ⟨⟨i0, i1⟩, ⟨s0, s1⟩, ⟨h0, h1⟩, v0, v1⟩ := id hk
  dsimp only at i0 i1 s0 s1 h0 h1 v0 v1
  have p0 : 0 ≤ s * k := Int.mul_nonneg (by omega) k0
  have p1 : s * k ≤ s * m := Int.mul_le_mul_of_nonneg_left km (by omega)
  have p2 : s * m ≤ 1048576 * 65535 := Int.mul_le_mul s1 m1 (by omega) (by omega)
  unfold CD.sent
  rw [if_pos hk]
  dsimp only
  by_cases hv : 0 ≤ v ∧ k ≤ 65535
  · rw [if_pos hv]
    exact ⟨_, _, rfl, ⟨⟨i0, i1⟩, ⟨s0, s1⟩, ⟨h0, h1⟩, by show _ ≤ v - s * k; omega, by show v - s * k ≤ h; omega⟩, by omega⟩
  · rw [if_neg hv]
    exact ⟨_, _, rfl, hk, hL⟩
theorem wait_may {i s h v : Int} (hk : CD.ok ⟨i, s, h, v⟩) : 0 ≤ CD.wait ⟨i, s, h, v⟩ ∧ CD.wait ⟨i, s, h, v⟩ ≤ 18446744073709551615 ∧ CD.may (CD.tick ⟨i, s, h, v⟩ (CD.wait ⟨i, s, h, v⟩) true) = true ∧
    (0 < CD.wait ⟨i, s, h, v⟩ → CD.may (CD.tick ⟨i, s, h, v⟩ (CD.wait ⟨i, s, h, v⟩ - 1) true) = false) ∧ CD.may ⟨i, s, h, v⟩ = (CD.wait ⟨i, s, h, v⟩ == 0) := by
  obtain ⟨⟨i0, i1⟩, ⟨s0, s1⟩, ⟨h0, h1⟩, v0, v1⟩ := id hk
  dsimp only at i0 i1 s0 s1 h0 h1 v0 v1
  have e : CD.wait ⟨i, s, h, v⟩ = need i v 0 := if_pos hk
  rw [e]
  obtain ⟨n0, n1, n2, n3⟩ := need_is (v := v) (m := 0) i0
  have nb : need i v 0 ≤ 18446744073709551615 := by
    by_cases hp : 0 < need i v 0
    · have := n2 hp
      have : 1 * (need i v 0 - 1) ≤ i * (need i v 0 - 1) := Int.mul_le_mul_of_nonneg_right i0 (by omega)
      omega
    · omega
  have f : ∀ x, 0 ≤ x → CD.may (CD.tick ⟨i, s, h, v⟩ x true) = decide (0 ≤ v + i * x) := by
    intro x hx
    obtain ⟨u, hu, hk2, -⟩ := tick_least (L := 1099511627776) true hk hx (by omega) (by omega)
    have e3 : u = min (v + i * x) h := by
      have : CD.tick ⟨i, s, h, v⟩ x true = ⟨i, s, h, min (v + i * x) h⟩ := if_pos hk
      rw [this] at hu
      injection hu with _ _ _ hu
      exact hu.symm
    rw [hu]
    unfold CD.may
    by_cases hq : 0 ≤ v + i * x
    · rw [decide_eq_true hq, decide_eq_true ⟨hk2, by show 0 ≤ u; omega⟩]
    · rw [decide_eq_false hq, decide_eq_false (fun y => by have := y.2; dsimp only at this; omega)]
  refine ⟨n0, nb, ?_, fun hp => ?_, ?_⟩
  · rw [f _ n0]; exact decide_eq_true (by omega)
  · rw [f _ (by omega)]; exact decide_eq_false (by have := n2 hp; omega)
  · unfold CD.may
    by_cases hv : 0 ≤ v
    · rw [decide_eq_true ⟨hk, hv⟩, n3.2 hv]; rfl
    · rw [decide_eq_false (fun y => hv y.2)]
      have : need i v 0 ≠ 0 := fun y => hv (n3.1 y)
      simp [this]
end Go.Proofs.Ytcieggckmpabnaa
