/-
  The example of layer 23, walked: true. The law on how little and how much credit a class has: true for any packets. No condition.
-/
import Derived.Test.YtgmdhanbeafagaaCr2
import Derived.Test.YtgmdhanbeafagaaCr3
import Derived.Test.YtgmdhanbeafagaaOpen23
import Derived.StillTailTactics
import Derived.Deep.DeepCutAuto
namespace Go.Proofs.Ytgmdhanbeafagaa
set_option linter.unusedVariables false
set_option linter.unusedSimpArgs false
open Go.ChangeShapes Go.WideShapes Go.ChangeAt Go.RowKit
attribute [local go_sem] alloc_drewN setCell_drewN

set_option maxRecDepth 100000 in
set_option maxHeartbeats 4000000 in
theorem lives23 (w : World) : Calls Try.prog 58 #[] w fun e w' => e = .returned (.bool true) ∧ Below w.heap.size w w' := by
  have NW := Lib.hid (fun W => cr_new 2 1 10 W)
  rw [show cre 2 1 10 0 = 0 from by decide, if_pos rfl] at NW
  have ST := Lib.hid (fun W => cr_sent ⟨2, 1, 10, 0⟩ 9 (by decide) (by decide) W)
  rw [show CD.sent ⟨2, 1, 10, 0⟩ 9 = (⟨2, 1, 10, -9⟩, true) from by decide] at ST
  have WT := Lib.hid (fun W => cr_wait ⟨2, 1, 10, -9⟩ W)
  rw [show CD.wait ⟨2, 1, 10, -9⟩ = 5 from by decide] at WT
  have TI := Lib.hid (fun W => cr_tick ⟨2, 1, 10, -9⟩ 4 (by decide) (by decide) true W)
  rw [show CD.tick ⟨2, 1, 10, -9⟩ 4 true = ⟨2, 1, 10, -1⟩ from by decide] at TI
  have MY := Lib.hid (fun W => cr_may ⟨2, 1, 10, -1⟩ W)
  rw [show CD.may ⟨2, 1, 10, -1⟩ = false from by decide] at MY
  simp only [cd_val] at ST WT TI MY
  have hfd : ∀ W : World, (Instr.field 114 (.agg #[.int .i64 2, .int .i64 1, .int .i64 10, .int .i64 (-1)]) 3).run Try.prog W = .ok (.int .i64 (-1)) W := fun _ => by kernel_rfl
  go_enter Try.func58, Try.ntmps58
  go_wp2_with fail
  refine (NW.out _).mono ?_
  rintro e w0 ⟨rfl, bb⟩
  have HB0 := Lib.hid bb
  clear bb
  go_wp2_with fail
  refine cl_gen ?_
  intro v0 hv0
  have XB : Below w.heap.size w v0 := by
    rw [hv0]
    (repeat' (first | (with_reducible exact HB0.out) | (with_reducible exact Below.refl _ _) | (with_reducible refine below_drewN _ ?_) | (with_reducible refine Below.drew ?_) | (with_reducible refine Below.setCell ?_ (by first | (simp; done) | omega) _) | (with_reducible refine Below.alloc ?_ (by have := HB0.out.size; simp; omega) _)))
  have Xc : v0.heap[w0.heap.size]? = some (.cells #[.int .i64 2, .int .i64 1, .int .i64 10, .int .i64 0] 114 (0, 0)) := by
    rw [hv0]
    (repeat' (first | (with_reducible exact heap_alloc_new _ _) | (with_reducible exact blk_new (by first | (simp; done) | omega)) | (with_reducible refine blk_drew ?_) | (with_reducible apply put4_0) | (with_reducible apply put4_1) | (with_reducible apply put4_2) | (with_reducible apply put4_3) | (with_reducible refine blk_else (by omega) ?_) | (with_reducible refine blk_old ?_)))
  obtain ⟨Bc, hBc⟩ : ∃ x, x = w0.heap.size := ⟨_, rfl⟩
  rw [← hBc] at Xc
  try rw [← hBc]
  have lec : w.heap.size ≤ Bc := by have := HB0.out.size; omega
  clear hBc
  clear hv0 HB0
  refine (ST.out _).mono ?_
  rintro e w1 ⟨rfl, bb⟩
  have Hc1 := Lib.hid (blk_call bb Xc)
  have HB1 := Lib.hid (bel_onto XB bb XB.size)
  clear Xc XB bb
  obtain ⟨c0_, c1_, c2_, c3_, cf0_, cf1_, cf2_, cf3_⟩ := at4 Hc1.out
  have cn_ := ne_blk Hc1.out
  have cm_ := Ne.symm (a := Bc) cn_
  have cl_ := lt_blk Hc1.out
  go_wp2_with fail
  refine cl_gen ?_
  intro v1 hv1
  have Xc : v1.heap[Bc]? = some (.cells #[.int .i64 2, .int .i64 1, .int .i64 10, .int .i64 (-9)] 114 (0, 0)) := by
    rw [hv1]
    (repeat' (first | (with_reducible exact Hc1.out) | (with_reducible exact heap_alloc_new _ _) | (with_reducible exact blk_new (by first | (simp; done) | omega)) | (with_reducible refine blk_drew ?_) | (with_reducible apply put4_0) | (with_reducible apply put4_1) | (with_reducible apply put4_2) | (with_reducible apply put4_3) | (with_reducible refine blk_else (by omega) ?_) | (with_reducible refine blk_old ?_)))
  have XB : Below w.heap.size w v1 := by
    rw [hv1]
    (repeat' (first | (with_reducible exact HB1.out) | (with_reducible exact Below.refl _ _) | (with_reducible refine below_drewN _ ?_) | (with_reducible refine Below.drew ?_) | (with_reducible refine Below.setCell ?_ (by first | (simp; done) | omega) _) | (with_reducible refine Below.alloc ?_ (by have := HB1.out.size; simp; omega) _)))
  clear c0_ c1_ c2_ c3_ cf0_ cf1_ cf2_ cf3_ cn_ cm_ cl_
  clear hv1 Hc1 HB1
  refine (WT.out _).mono ?_
  rintro e w2 ⟨rfl, bb⟩
  have Hc2 := Lib.hid (blk_call bb Xc)
  have HB2 := Lib.hid (bel_onto XB bb XB.size)
  clear Xc XB bb
  obtain ⟨c0_, c1_, c2_, c3_, cf0_, cf1_, cf2_, cf3_⟩ := at4 Hc2.out
  have cn_ := ne_blk Hc2.out
  have cm_ := Ne.symm (a := Bc) cn_
  have cl_ := lt_blk Hc2.out
  go_wp2_with fail
  refine cl_gen ?_
  intro v2 hv2
  have Xc : v2.heap[Bc]? = some (.cells #[.int .i64 2, .int .i64 1, .int .i64 10, .int .i64 (-9)] 114 (0, 0)) := by
    rw [hv2]
    (repeat' (first | (with_reducible exact Hc2.out) | (with_reducible exact heap_alloc_new _ _) | (with_reducible exact blk_new (by first | (simp; done) | omega)) | (with_reducible refine blk_drew ?_) | (with_reducible apply put4_0) | (with_reducible apply put4_1) | (with_reducible apply put4_2) | (with_reducible apply put4_3) | (with_reducible refine blk_else (by omega) ?_) | (with_reducible refine blk_old ?_)))
  have XB : Below w.heap.size w v2 := by
    rw [hv2]
    (repeat' (first | (with_reducible exact HB2.out) | (with_reducible exact Below.refl _ _) | (with_reducible refine below_drewN _ ?_) | (with_reducible refine Below.drew ?_) | (with_reducible refine Below.setCell ?_ (by first | (simp; done) | omega) _) | (with_reducible refine Below.alloc ?_ (by have := HB2.out.size; simp; omega) _)))
  clear c0_ c1_ c2_ c3_ cf0_ cf1_ cf2_ cf3_ cn_ cm_ cl_
  clear hv2 Hc2 HB2
  refine (TI.out _).mono ?_
  rintro e w3 ⟨rfl, bb⟩
  have Hc3 := Lib.hid (blk_call bb Xc)
  have HB3 := Lib.hid (bel_onto XB bb XB.size)
  clear Xc XB bb
  obtain ⟨c0_, c1_, c2_, c3_, cf0_, cf1_, cf2_, cf3_⟩ := at4 Hc3.out
  have cn_ := ne_blk Hc3.out
  have cm_ := Ne.symm (a := Bc) cn_
  have cl_ := lt_blk Hc3.out
  go_wp2_with fail
  refine cl_gen ?_
  intro v3 hv3
  have Xc : v3.heap[Bc]? = some (.cells #[.int .i64 2, .int .i64 1, .int .i64 10, .int .i64 (-9)] 114 (0, 0)) := by
    rw [hv3]
    (repeat' (first | (with_reducible exact Hc3.out) | (with_reducible exact heap_alloc_new _ _) | (with_reducible exact blk_new (by first | (simp; done) | omega)) | (with_reducible refine blk_drew ?_) | (with_reducible apply put4_0) | (with_reducible apply put4_1) | (with_reducible apply put4_2) | (with_reducible apply put4_3) | (with_reducible refine blk_else (by omega) ?_) | (with_reducible refine blk_old ?_)))
  have XB : Below w.heap.size w v3 := by
    rw [hv3]
    (repeat' (first | (with_reducible exact HB3.out) | (with_reducible exact Below.refl _ _) | (with_reducible refine below_drewN _ ?_) | (with_reducible refine Below.drew ?_) | (with_reducible refine Below.setCell ?_ (by first | (simp; done) | omega) _) | (with_reducible refine Below.alloc ?_ (by have := HB3.out.size; simp; omega) _)))
  clear c0_ c1_ c2_ c3_ cf0_ cf1_ cf2_ cf3_ cn_ cm_ cl_
  clear hv3 Hc3 HB3
  refine (MY.out _).mono ?_
  rintro e w4 ⟨rfl, bb⟩
  have Hc4 := Lib.hid (blk_call bb Xc)
  have HB4 := Lib.hid (bel_onto XB bb XB.size)
  clear Xc XB bb
  obtain ⟨c0_, c1_, c2_, c3_, cf0_, cf1_, cf2_, cf3_⟩ := at4 Hc4.out
  have cn_ := ne_blk Hc4.out
  have cm_ := Ne.symm (a := Bc) cn_
  have cl_ := lt_blk Hc4.out
  go_wp2_with fail
  refine cl_gen ?_
  intro v4 hv4
  have Xc : v4.heap[Bc]? = some (.cells #[.int .i64 2, .int .i64 1, .int .i64 10, .int .i64 (-9)] 114 (0, 0)) := by
    rw [hv4]
    (repeat' (first | (with_reducible exact Hc4.out) | (with_reducible exact heap_alloc_new _ _) | (with_reducible exact blk_new (by first | (simp; done) | omega)) | (with_reducible refine blk_drew ?_) | (with_reducible apply put4_0) | (with_reducible apply put4_1) | (with_reducible apply put4_2) | (with_reducible apply put4_3) | (with_reducible refine blk_else (by omega) ?_) | (with_reducible refine blk_old ?_)))
  have XB : Below w.heap.size w v4 := by
    rw [hv4]
    (repeat' (first | (with_reducible exact HB4.out) | (with_reducible exact Below.refl _ _) | (with_reducible refine below_drewN _ ?_) | (with_reducible refine Below.drew ?_) | (with_reducible refine Below.setCell ?_ (by first | (simp; done) | omega) _) | (with_reducible refine Below.alloc ?_ (by have := HB4.out.size; simp; omega) _)))
  clear c0_ c1_ c2_ c3_ cf0_ cf1_ cf2_ cf3_ cn_ cm_ cl_
  clear hv4 Hc4 HB4
  refine (TI.out _).mono ?_
  rintro e w5 ⟨rfl, bb⟩
  have Hc5 := Lib.hid (blk_call bb Xc)
  have HB5 := Lib.hid (bel_onto XB bb XB.size)
  clear Xc XB bb
  obtain ⟨c0_, c1_, c2_, c3_, cf0_, cf1_, cf2_, cf3_⟩ := at4 Hc5.out
  have cn_ := ne_blk Hc5.out
  have cm_ := Ne.symm (a := Bc) cn_
  have cl_ := lt_blk Hc5.out
  clear c0_ c1_ c2_ c3_ cf0_ cf1_ cf2_ cf3_ cn_ cm_ cl_
  go_wp2
  go_ret
  exact ⟨rfl, HB5.out⟩
structure RemOk (a b : Int) : Prop where
  nz : b ≠ 0
  fit : IntKind.u64.wrap (a.tmod b) = a.tmod b
theorem rem_ok {P : Program} {w : World} {t : TypeId} {a b : Int} (h : RemOk a b) : (binOp .rem t (.int .u64 a) (.int .u64 b)).run P w = .ok (.int .u64 (a.tmod b)) w := by
  rw [binOp_rem]
  unfold Op.intDiv
  rw [if_neg h.nz]
  simp only [h.fit]
  rfl
/-- A class that may be, and has no less than what a packet costs below nought. -/
theorem tick_least {i s h v x L : Int} (b : Bool) (hk : CD.ok ⟨i, s, h, v⟩) (hx : 0 ≤ x) (hL : -L ≤ v) (h0 : 0 ≤ L) :
    ∃ v1, CD.tick ⟨i, s, h, v⟩ x b = ⟨i, s, h, v1⟩ ∧ CD.ok ⟨i, s, h, v1⟩ ∧ -L ≤ v1 := by
  obtain ⟨⟨i0, i1⟩, ⟨s0, s1⟩, ⟨h0_, h1⟩, v0, v1⟩ := id hk
  dsimp only at i0 i1 s0 s1 h0_ h1 v0 v1
  have p : 0 ≤ i * x := Int.mul_nonneg (by omega) hx
  refine ⟨_, if_pos hk, ⟨⟨i0, i1⟩, ⟨s0, s1⟩, ⟨h0_, h1⟩, ?_, ?_⟩, ?_⟩ <;> dsimp only <;> generalize i * x = P at * <;> cases b <;> simp only [if_true, Bool.false_eq_true, if_false] <;> (try split) <;> omega
theorem sent_least {i s h v k m : Int} (hk : CD.ok ⟨i, s, h, v⟩) (k0 : 0 ≤ k) (km : k ≤ m) (m1 : m ≤ 65535) (hL : -(s * m) ≤ v) :
    ∃ v2 q, CD.sent ⟨i, s, h, v⟩ k = (⟨i, s, h, v2⟩, q) ∧ CD.ok ⟨i, s, h, v2⟩ ∧ -(s * m) ≤ v2 := by
  obtain ⟨⟨i0, i1⟩, ⟨s0, s1⟩, ⟨h0, h1⟩, v0, v1⟩ := id hk
  dsimp only at i0 i1 s0 s1 h0 h1 v0 v1
  have p0 : 0 ≤ s * k := Int.mul_nonneg (by omega) k0
  have p1 : s * k ≤ s * m := Int.mul_le_mul_of_nonneg_left km (by omega)
  have p2 : s * m ≤ 1048576 * 65535 := Int.mul_le_mul s1 m1 (by omega) (by omega)
  unfold CD.sent
  rw [if_pos hk]
  dsimp only
  by_cases hv : 0 ≤ v ∧ k ≤ 65535
  · rw [if_pos hv]
    exact ⟨_, _, rfl, ⟨⟨i0, i1⟩, ⟨s0, s1⟩, ⟨h0, h1⟩, by show _ ≤ v - s * k; omega, by show v - s * k ≤ h; omega⟩, by omega⟩
  · rw [if_neg hv]
    exact ⟨_, _, rfl, hk, hL⟩
theorem wait_may {i s h v : Int} (hk : CD.ok ⟨i, s, h, v⟩) : 0 ≤ CD.wait ⟨i, s, h, v⟩ ∧ CD.wait ⟨i, s, h, v⟩ ≤ 18446744073709551615 ∧ CD.may (CD.tick ⟨i, s, h, v⟩ (CD.wait ⟨i, s, h, v⟩) true) = true ∧
    (0 < CD.wait ⟨i, s, h, v⟩ → CD.may (CD.tick ⟨i, s, h, v⟩ (CD.wait ⟨i, s, h, v⟩ - 1) true) = false) ∧ CD.may ⟨i, s, h, v⟩ = (CD.wait ⟨i, s, h, v⟩ == 0) := by
  obtain ⟨⟨i0, i1⟩, ⟨s0, s1⟩, ⟨h0, h1⟩, v0, v1⟩ := id hk
  dsimp only at i0 i1 s0 s1 h0 h1 v0 v1
  have e : CD.wait ⟨i, s, h, v⟩ = need i v 0 := if_pos hk
  rw [e]
  obtain ⟨n0, n1, n2, n3⟩ := need_is (v := v) (m := 0) i0
  have nb : need i v 0 ≤ 18446744073709551615 := by
    by_cases hp : 0 < need i v 0
    · have := n2 hp
      have : 1 * (need i v 0 - 1) ≤ i * (need i v 0 - 1) := Int.mul_le_mul_of_nonneg_right i0 (by omega)
      omega
    · omega
  have f : ∀ x, 0 ≤ x → CD.may (CD.tick ⟨i, s, h, v⟩ x true) = decide (0 ≤ v + i * x) := by
    intro x hx
    obtain ⟨u, hu, hk2, -⟩ := tick_least (L := 1099511627776) true hk hx (by omega) (by omega)
    have e3 : u = min (v + i * x) h := by
      have : CD.tick ⟨i, s, h, v⟩ x true = ⟨i, s, h, min (v + i * x) h⟩ := if_pos hk
      rw [this] at hu
      injection hu with _ _ _ hu
      exact hu.symm
    rw [hu]
    unfold CD.may
    by_cases hq : 0 ≤ v + i * x
    · rw [decide_eq_true hq, decide_eq_true ⟨hk2, by show 0 ≤ u; omega⟩]
    · rw [decide_eq_false hq, decide_eq_false (fun y => by have := y.2; dsimp only at this; omega)]
  refine ⟨n0, nb, ?_, fun hp => ?_, ?_⟩
  · rw [f _ n0]; exact decide_eq_true (by omega)
  · rw [f _ (by omega)]; exact decide_eq_false (by have := n2 hp; omega)
  · unfold CD.may
    by_cases hv : 0 ≤ v
    · rw [decide_eq_true ⟨hk, hv⟩, n3.2 hv]; rfl
    · rw [decide_eq_false (fun y => hv y.2)]
      have : need i v 0 ≠ 0 := fun y => hv (n3.1 y)
      simp [this]
set_option maxRecDepth 100000 in
set_option maxHeartbeats 4000000 in
theorem walk_creditBounds (x : Int) (x0 : 0 ≤ x) (x1 : x ≤ 65535) (y : Int) (y0 : 0 ≤ y) (y1 : y ≤ 65535) (z : Int) (z0 : 0 ≤ z) (z1 : z ≤ 65535) (m : Int) (m0 : 0 ≤ m) (m1 : m ≤ 65535) (a : Option Addr) (n cc : Nat) (fs : List Act23) {w : World} (hr : RowA23 w a n fs) (hc : n ≤ cc) :
    Calls Try.prog 15 #[.agg #[.int .u16 x, .int .u16 y, .int .u16 z], .int .u16 m, .slice a n cc] w fun e w' => e = .returned (.bool true) ∧ Below w.heap.size w w' := by
  have LV := Lib.hid (fun W => lives23 W)
  obtain ⟨X, hX⟩ : ∃ X, x + 1 = X := ⟨_, rfl⟩
  obtain ⟨Y, hY⟩ : ∃ Y, y + 1 = Y := ⟨_, rfl⟩
  obtain ⟨Z, hZ⟩ : ∃ Z, z + 1 = Z := ⟨_, rfl⟩
  have OK0 : CD.ok ⟨X, Y, Z, 0⟩ := ⟨⟨by show 1 ≤ X; omega, by show X ≤ _; omega⟩, ⟨by show 1 ≤ Y; omega, by show Y ≤ _; omega⟩, ⟨by show 1 ≤ Z; omega, by show Z ≤ _; omega⟩, by show (_ : Int) ≤ 0; omega, by show 0 ≤ Z; omega⟩
  have NW := Lib.hid (fun W => cr_new X Y Z W)
  rw [show cre X Y Z 0 = 0 from if_pos OK0, if_pos rfl] at NW
  have Y9 : 1 ≤ Y ∧ Y ≤ 65536 := by omega
  have HR := Lib.hid hr
  have hnm := hr.2.1
  unfold maxLen at hnm
  have H0 := Lib.hid OK0
  clear OK0 hr
  by_cases hlong : 200 < n
  · have g200 : decide ((200 : Int) < n) = true := decide_eq_true (by omega)
    go_enter Try.func15, Try.ntmps15
    go_wp2
    refine wp_genc ?_
    intro v0 hv0
    have XB : Below w.heap.size w v0 := by
      rw [hv0]
      (repeat' (first | (with_reducible exact Below.refl _ _) | (with_reducible assumption) | (with_reducible refine below_drewN _ ?_) | (with_reducible refine Below.drew ?_) | (with_reducible refine Below.setCell ?_ (by simp) _) | (with_reducible refine Below.alloc ?_ (by simp; try omega) _)))
    have Xq : v0.heap[w.heap.size]? = some (.cells #[.int .u16 x, .int .u16 y, .int .u16 z] 132 (0, 0)) := by
      rw [hv0]
      (repeat' (first | (with_reducible exact heap_alloc_new _ _) | (with_reducible exact blk_new (by first | (simp; done) | omega)) | (with_reducible refine blk_drew ?_) | (with_reducible apply put3_0) | (with_reducible apply put3_1) | (with_reducible apply put3_2) | (with_reducible refine blk_else (by omega) ?_) | (with_reducible refine blk_old ?_)))
    obtain ⟨Bq, hBq⟩ : ∃ x, x = w.heap.size := ⟨_, rfl⟩
    rw [← hBq] at Xq
    try rw [← hBq]
    have leq : w.heap.size ≤ Bq := by omega
    clear hBq
    clear hv0
    have Hq1 := Lib.hid Xq
    have HB1 := Lib.hid XB
    clear Xq XB
    obtain ⟨q0_, q1_, q2_, qf0_, qf1_, qf2_⟩ := at3 Hq1.out
    have qn_ := ne_blk Hq1.out
    have qm_ := Ne.symm (a := Bq) qn_
    have ql_ := lt_blk Hq1.out
    go_quiet (fail)
    go_wp2_with fail
    refine cl_gen ?_
    intro v1 hv1
    have XB : Below w.heap.size w v1 := by
      rw [hv1]
      (repeat' (first | (with_reducible exact HB1.out) | (with_reducible exact Below.refl _ _) | (with_reducible refine below_drewN _ ?_) | (with_reducible refine Below.drew ?_) | (with_reducible refine Below.setCell ?_ (by first | (simp; done) | omega) _) | (with_reducible refine Below.alloc ?_ (by have := HB1.out.size; simp; omega) _)))
    clear q0_ q1_ q2_ qf0_ qf1_ qf2_ qn_ qm_ ql_
    clear hv1 Hq1 HB1
    refine (NW.out _).mono ?_
    rintro e w2 ⟨rfl, bb⟩
    have HB2 := Lib.hid (bel_onto XB bb XB.size)
    clear XB bb
    go_wp2_with fail
    refine cl_gen ?_
    intro v2 hv2
    have XB : Below w.heap.size w v2 := by
      rw [hv2]
      (repeat' (first | (with_reducible exact HB2.out) | (with_reducible exact Below.refl _ _) | (with_reducible refine below_drewN _ ?_) | (with_reducible refine Below.drew ?_) | (with_reducible refine Below.setCell ?_ (by first | (simp; done) | omega) _) | (with_reducible refine Below.alloc ?_ (by have := HB2.out.size; simp; omega) _)))
    clear hv2 HB2
    refine (LV.out _).mono ?_
    rintro e w3 ⟨rfl, bb⟩
    have HB3 := Lib.hid (bel_onto XB bb XB.size)
    clear XB bb
    go_wp2
    go_ret
    exact ⟨rfl, HB3.out⟩
  · have g200 : decide ((200 : Int) < n) = false := decide_eq_false (by omega)
    have hn200 : n ≤ 200 := by omega
    clear hlong
    go_enter Try.func15, Try.ntmps15
    go_wp2
    refine wp_genc ?_
    intro v0 hv0
    have XB : Below w.heap.size w v0 := by
      rw [hv0]
      (repeat' (first | (with_reducible exact Below.refl _ _) | (with_reducible assumption) | (with_reducible refine below_drewN _ ?_) | (with_reducible refine Below.drew ?_) | (with_reducible refine Below.setCell ?_ (by simp) _) | (with_reducible refine Below.alloc ?_ (by simp; try omega) _)))
    have Xq : v0.heap[w.heap.size]? = some (.cells #[.int .u16 x, .int .u16 y, .int .u16 z] 132 (0, 0)) := by
      rw [hv0]
      (repeat' (first | (with_reducible exact heap_alloc_new _ _) | (with_reducible exact blk_new (by first | (simp; done) | omega)) | (with_reducible refine blk_drew ?_) | (with_reducible apply put3_0) | (with_reducible apply put3_1) | (with_reducible apply put3_2) | (with_reducible refine blk_else (by omega) ?_) | (with_reducible refine blk_old ?_)))
    obtain ⟨Bq, hBq⟩ : ∃ x, x = w.heap.size := ⟨_, rfl⟩
    rw [← hBq] at Xq
    try rw [← hBq]
    have leq : w.heap.size ≤ Bq := by omega
    clear hBq
    clear hv0
    have Hq1 := Lib.hid Xq
    have HB1 := Lib.hid XB
    clear Xq XB
    obtain ⟨q0_, q1_, q2_, qf0_, qf1_, qf2_⟩ := at3 Hq1.out
    have qn_ := ne_blk Hq1.out
    have qm_ := Ne.symm (a := Bq) qn_
    have ql_ := lt_blk Hq1.out
    go_quiet (fail)
    go_wp2_with fail
    refine cl_gen ?_
    intro v1 hv1
    have XB : Below w.heap.size w v1 := by
      rw [hv1]
      (repeat' (first | (with_reducible exact HB1.out) | (with_reducible exact Below.refl _ _) | (with_reducible refine below_drewN _ ?_) | (with_reducible refine Below.drew ?_) | (with_reducible refine Below.setCell ?_ (by first | (simp; done) | omega) _) | (with_reducible refine Below.alloc ?_ (by have := HB1.out.size; simp; omega) _)))
    clear q0_ q1_ q2_ qf0_ qf1_ qf2_ qn_ qm_ ql_
    clear hv1 Hq1 HB1
    refine (NW.out _).mono ?_
    rintro e w2 ⟨rfl, bb⟩
    have HB2 := Lib.hid (bel_onto XB bb XB.size)
    clear XB bb
    go_wp2
    refine wp_genc ?_
    intro v2 hv2
    have XB : Below w.heap.size w v2 := by
      rw [hv2]
      (repeat' (first | (with_reducible exact HB2.out) | (with_reducible exact Below.refl _ _) | (with_reducible refine below_drewN _ ?_) | (with_reducible refine Below.drew ?_) | (with_reducible refine Below.setCell ?_ (by first | (simp; done) | omega) _) | (with_reducible refine Below.alloc ?_ (by have := HB2.out.size; simp; omega) _)))
    have Xc : v2.heap[w2.heap.size]? = some (.cells #[.int .i64 X, .int .i64 Y, .int .i64 Z, .int .i64 0] 114 (0, 0)) := by
      rw [hv2]
      (repeat' (first | (with_reducible exact heap_alloc_new _ _) | (with_reducible exact blk_new (by first | (simp; done) | omega)) | (with_reducible refine blk_drew ?_) | (with_reducible apply put4_0) | (with_reducible apply put4_1) | (with_reducible apply put4_2) | (with_reducible apply put4_3) | (with_reducible refine blk_else (by omega) ?_) | (with_reducible refine blk_old ?_)))
    obtain ⟨Bc, hBc⟩ : ∃ x, x = w2.heap.size := ⟨_, rfl⟩
    rw [← hBc] at Xc
    try rw [← hBc]
    have lec : w.heap.size ≤ Bc := by have := HB2.out.size; omega
    clear hBc
    clear hv2 HB2
    have Hc3 := Lib.hid Xc
    have HB3 := Lib.hid XB
    clear Xc XB
    obtain ⟨c0_, c1_, c2_, c3_, cf0_, cf1_, cf2_, cf3_⟩ := at4 Hc3.out
    have cn_ := ne_blk Hc3.out
    have cm_ := Ne.symm (a := Bc) cn_
    have cl_ := lt_blk Hc3.out
    go_loopw [48] (fun e wr => ∃ (j : Nat) (v : Int), e = .int .i64 j ∧ j ≤ n ∧ CD.ok ⟨X, Y, Z, v⟩ ∧ -(Y * m) ≤ v ∧ wr.heap[Bc]? = some (.cells #[.int .i64 X, .int .i64 Y, .int .i64 Z, .int .i64 v] 114 (0, 0)) ∧ Below w.heap.size w wr) (fun e _ => n - (intOf e).toNat)
    case atStart => exact ⟨0, 0, rfl, Nat.zero_le _, H0.out, by have := Int.mul_nonneg (show 0 ≤ Y by omega) m0; omega, Hc3.out, HB3.out⟩
    case round =>
      clear c0_ c1_ c2_ c3_ cf0_ cf1_ cf2_ cf3_ cn_ cm_ cl_ Hc3 HB3 g200
      obtain ⟨j, v, rfl, hj, hk, hv, xc, xb⟩ := hrel
      have Hc9 := Lib.hid xc; have HB9 := Lib.hid xb
      clear xc
      by_cases hlt : j < n
      · obtain ⟨hzl, hzm, hzw, hzc⟩ := HR.out
        obtain ⟨b, off, rfl, hb0, hcs⟩ := hzc (by omega)
        obtain ⟨cx0, cx1, cx2⟩ := hcs j hlt
        have d0_ := (xb.cell (p := ⟨b, off + j * 3, none⟩) hb0).trans cx0
        have d1_ := (xb.cell (p := ⟨b, off + j * 3 + 1, none⟩) hb0).trans cx1
        have d2_ := (xb.cell (p := ⟨b, off + j * 3 + 2, none⟩) hb0).trans cx2
        have hxw : (fs.getD j Act23.nil).ok := hzw _ (by rw [List.getD_eq_getElem?_getD, List.getElem?_eq_getElem (by omega : j < fs.length)]; exact List.getElem_mem _)
        generalize fs.getD j Act23.nil = act at *
        obtain ⟨ad, an, ab⟩ := act
        obtain ⟨⟨p0, p1⟩, p2, p3⟩ := hxw
        dsimp only at p0 p1 p2 p3 d0_ d1_ d2_
        have LM : 0 ≤ Y * m := Int.mul_nonneg (by omega) m0
        have T1 := Lib.hid (fun W => cr_tick ⟨X, Y, Z, v⟩ ad p0 p1 ab W)
        obtain ⟨v1, hv1, hk1, hl1⟩ := tick_least ab hk p0 hv LM
        rw [hv1] at T1
        have WT := Lib.hid (fun W => cr_wait ⟨X, Y, Z, v1⟩ W)
        obtain ⟨q0, q1, q2, q3, q4⟩ := wait_may hk1
        have M1 := Lib.hid (fun W => cr_may ⟨X, Y, Z, v1⟩ W)
        rw [q4] at M1
        generalize CD.wait ⟨X, Y, Z, v1⟩ = N at *
        have T2 := Lib.hid (fun W => cr_tick ⟨X, Y, Z, v1⟩ N q0 q1 true W)
        obtain ⟨v2, hv2, -, -⟩ := tick_least true hk1 q0 hl1 LM
        rw [hv2] at T2 q2
        have M2 := Lib.hid (fun W => cr_may ⟨X, Y, Z, v2⟩ W)
        rw [q2] at M2
        have r0 : 0 ≤ an.emod (m + 1) := Int.emod_nonneg an (by omega)
        have r1 : an.emod (m + 1) ≤ m := by have := Int.emod_lt_of_pos an (show 0 < m + 1 by omega); show an % (m + 1) ≤ m; omega
        obtain ⟨M9, hM9⟩ : ∃ M9, m + 1 = M9 := ⟨_, rfl⟩
        have er : IntKind.u64.wrap (an.tmod M9) = an.emod (m + 1) := by
          rw [← hM9]
          exact (show IntKind.u64.wrap (an.tmod (m + 1)) = an.emod (m + 1) from by rw [Int.tmod_eq_emod_of_nonneg p2, IntKind.wrap_u64]; show (an % (m + 1)) % _ = an % (m + 1); have : an % (m + 1) = an.emod (m + 1) := rfl; omega)
        have ew : IntKind.u64.wrap (m + 1) = M9 := by rw [IntKind.wrap_u64]; omega
        have em : (M9 == 0) = false := by simp; omega
        have em2 : ¬ M9 = 0 := by omega
        have em3 : 1 ≤ M9 := by omega
        have et2 : an.tmod M9 = an.emod (m + 1) := by rw [← hM9, Int.tmod_eq_emod_of_nonneg p2]; rfl
        have er9 : RemOk an M9 := ⟨em2, by rw [er, et2]⟩
        have ewm : IntKind.u64.wrap m = m := by rw [IntKind.wrap_u64]; omega
        have ewM : IntKind.u64.wrap M9 = M9 := by rw [IntKind.wrap_u64]; omega
        have em4 : ¬ m = -1 := by omega
        clear er em er9
        have S1 := Lib.hid (fun W => cr_sent ⟨X, Y, Z, v1⟩ (an.emod (m + 1)) r0 (by omega) W)
        obtain ⟨v3, b3, hv3, hk3, hl3⟩ := sent_least hk1 r0 r1 m1 hl1
        rw [hv3] at S1
        generalize hkk : an.emod (m + 1) = kk at *
        have EKK := Lib.hid (show an % M9 = kk by rw [← hM9]; exact hkk)
        clear hkk
        have LM2 : Y * m ≤ 65536 * 65535 := Int.mul_le_mul Y9.2 m1 m0 (by omega)
        have en : IntKind.i64.wrap (-Y) = -Y := by rw [IntKind.wrap_i64]; omega
        have en2 : -Y * m = -(Y * m) := Int.neg_mul Y m
        have en3 : IntKind.i64.wrap (-(Y * m)) = -(Y * m) := by rw [IntKind.wrap_i64]; omega
        have gl3 : decide (v3 < -(Y * m)) = false := decide_eq_false (by omega)
        have gl4 : decide (Z < v3) = false := decide_eq_false (by have := hk3.2.2.2.2; dsimp only at this; omega)
        simp only [cd_val] at T1 WT M1 T2 M2 S1
        have HK3 := Lib.hid hk3
        have HL3 := Lib.hid hl3
        clear hzl hzm hzw hzc hcs cx0 cx1 cx2 hv1 hv2 hv3 hk hv hk1 hl1 hk3 hl3 xb q2 q4 LM LM2 r0 r1
        by_cases hN : N = 0
        · subst hN
          clear q3
          obtain ⟨c0_, c1_, c2_, c3_, cf0_, cf1_, cf2_, cf3_⟩ := at4 Hc9.out
          have cn_ := ne_blk Hc9.out
          have cm_ := Ne.symm (a := Bc) cn_
          have cl_ := lt_blk Hc9.out
          go_wp2_with fail
          refine cl_gen ?_
          intro v9 hv9
          have Xc : v9.heap[Bc]? = some (.cells #[.int .i64 X, .int .i64 Y, .int .i64 Z, .int .i64 v] 114 (0, 0)) := by
            rw [hv9]
            (repeat' (first | (with_reducible exact Hc9.out) | (with_reducible exact heap_alloc_new _ _) | (with_reducible exact blk_new (by first | (simp; done) | omega)) | (with_reducible refine blk_drew ?_) | (with_reducible apply put4_0) | (with_reducible apply put4_1) | (with_reducible apply put4_2) | (with_reducible apply put4_3) | (with_reducible refine blk_else (by omega) ?_) | (with_reducible refine blk_old ?_)))
          have XB : Below w.heap.size w v9 := by
            rw [hv9]
            (repeat' (first | (with_reducible exact HB9.out) | (with_reducible exact Below.refl _ _) | (with_reducible refine below_drewN _ ?_) | (with_reducible refine Below.drew ?_) | (with_reducible refine Below.setCell ?_ (by first | (simp; done) | omega) _) | (with_reducible refine Below.alloc ?_ (by have := HB9.out.size; simp; omega) _)))
          have Xe : v9.heap[wr.heap.size]? = some (.cells #[.int .u64 ad, .int .u64 an, .bool ab] 120 (0, 0)) := by
            rw [hv9]
            (repeat' (first | (with_reducible exact heap_alloc_new _ _) | (with_reducible exact blk_new (by first | (simp; done) | omega)) | (with_reducible refine blk_drew ?_) | (with_reducible apply put3_0) | (with_reducible apply put3_1) | (with_reducible apply put3_2) | (with_reducible refine blk_else (by omega) ?_) | (with_reducible refine blk_old ?_)))
          obtain ⟨Be, hBe⟩ : ∃ x, x = wr.heap.size := ⟨_, rfl⟩
          rw [← hBe] at Xe
          try rw [← hBe]
          have nec : ¬ Be = Bc := by have := lt_blk Hc9.out; omega
          have nce : ¬ Bc = Be := fun h => nec h.symm
          have lee : w.heap.size ≤ Be := by have := HB9.out.size; omega
          clear hBe
          clear c0_ c1_ c2_ c3_ cf0_ cf1_ cf2_ cf3_ cn_ cm_ cl_ d0_ d1_ d2_
          clear hv9 Hc9 HB9
          refine (T1.out _).mono ?_
          rintro e w10 ⟨rfl, bb⟩
          have Hc10 := Lib.hid (blk_call bb Xc)
          have He10 := Lib.hid (blk_call bb Xe)
          have HB10 := Lib.hid (bel_onto XB bb XB.size)
          clear Xc Xe XB bb
          obtain ⟨c0_, c1_, c2_, c3_, cf0_, cf1_, cf2_, cf3_⟩ := at4 Hc10.out
          have cn_ := ne_blk Hc10.out
          have cm_ := Ne.symm (a := Bc) cn_
          have cl_ := lt_blk Hc10.out
          obtain ⟨e0_, e1_, e2_, ef0_, ef1_, ef2_⟩ := at3 He10.out
          have en_ := ne_blk He10.out
          have em_ := Ne.symm (a := Be) en_
          have el_ := lt_blk He10.out
          go_wp2_with fail
          refine cl_gen ?_
          intro v10 hv10
          have Xc : v10.heap[Bc]? = some (.cells #[.int .i64 X, .int .i64 Y, .int .i64 Z, .int .i64 v1] 114 (0, 0)) := by
            rw [hv10]
            (repeat' (first | (with_reducible exact Hc10.out) | (with_reducible exact heap_alloc_new _ _) | (with_reducible exact blk_new (by first | (simp; done) | omega)) | (with_reducible refine blk_drew ?_) | (with_reducible apply put4_0) | (with_reducible apply put4_1) | (with_reducible apply put4_2) | (with_reducible apply put4_3) | (with_reducible refine blk_else (by omega) ?_) | (with_reducible refine blk_old ?_)))
          have Xe : v10.heap[Be]? = some (.cells #[.int .u64 ad, .int .u64 an, .bool ab] 120 (0, 0)) := by
            rw [hv10]
            (repeat' (first | (with_reducible exact He10.out) | (with_reducible exact heap_alloc_new _ _) | (with_reducible exact blk_new (by first | (simp; done) | omega)) | (with_reducible refine blk_drew ?_) | (with_reducible apply put3_0) | (with_reducible apply put3_1) | (with_reducible apply put3_2) | (with_reducible refine blk_else (by omega) ?_) | (with_reducible refine blk_old ?_)))
          have XB : Below w.heap.size w v10 := by
            rw [hv10]
            (repeat' (first | (with_reducible exact HB10.out) | (with_reducible exact Below.refl _ _) | (with_reducible refine below_drewN _ ?_) | (with_reducible refine Below.drew ?_) | (with_reducible refine Below.setCell ?_ (by first | (simp; done) | omega) _) | (with_reducible refine Below.alloc ?_ (by have := HB10.out.size; simp; omega) _)))
          clear c0_ c1_ c2_ c3_ cf0_ cf1_ cf2_ cf3_ cn_ cm_ cl_ e0_ e1_ e2_ ef0_ ef1_ ef2_ en_ em_ el_
          clear hv10 Hc10 He10 HB10
          refine (WT.out _).mono ?_
          rintro e w11 ⟨rfl, bb⟩
          have Hc11 := Lib.hid (blk_call bb Xc)
          have He11 := Lib.hid (blk_call bb Xe)
          have HB11 := Lib.hid (bel_onto XB bb XB.size)
          clear Xc Xe XB bb
          obtain ⟨c0_, c1_, c2_, c3_, cf0_, cf1_, cf2_, cf3_⟩ := at4 Hc11.out
          have cn_ := ne_blk Hc11.out
          have cm_ := Ne.symm (a := Bc) cn_
          have cl_ := lt_blk Hc11.out
          obtain ⟨e0_, e1_, e2_, ef0_, ef1_, ef2_⟩ := at3 He11.out
          have en_ := ne_blk He11.out
          have em_ := Ne.symm (a := Be) en_
          have el_ := lt_blk He11.out
          go_wp2_with fail
          refine cl_gen ?_
          intro v11 hv11
          have Xc : v11.heap[Bc]? = some (.cells #[.int .i64 X, .int .i64 Y, .int .i64 Z, .int .i64 v1] 114 (0, 0)) := by
            rw [hv11]
            (repeat' (first | (with_reducible exact Hc11.out) | (with_reducible exact heap_alloc_new _ _) | (with_reducible exact blk_new (by first | (simp; done) | omega)) | (with_reducible refine blk_drew ?_) | (with_reducible apply put4_0) | (with_reducible apply put4_1) | (with_reducible apply put4_2) | (with_reducible apply put4_3) | (with_reducible refine blk_else (by omega) ?_) | (with_reducible refine blk_old ?_)))
          have Xe : v11.heap[Be]? = some (.cells #[.int .u64 ad, .int .u64 an, .bool ab] 120 (0, 0)) := by
            rw [hv11]
            (repeat' (first | (with_reducible exact He11.out) | (with_reducible exact heap_alloc_new _ _) | (with_reducible exact blk_new (by first | (simp; done) | omega)) | (with_reducible refine blk_drew ?_) | (with_reducible apply put3_0) | (with_reducible apply put3_1) | (with_reducible apply put3_2) | (with_reducible refine blk_else (by omega) ?_) | (with_reducible refine blk_old ?_)))
          have XB : Below w.heap.size w v11 := by
            rw [hv11]
            (repeat' (first | (with_reducible exact HB11.out) | (with_reducible exact Below.refl _ _) | (with_reducible refine below_drewN _ ?_) | (with_reducible refine Below.drew ?_) | (with_reducible refine Below.setCell ?_ (by first | (simp; done) | omega) _) | (with_reducible refine Below.alloc ?_ (by have := HB11.out.size; simp; omega) _)))
          clear c0_ c1_ c2_ c3_ cf0_ cf1_ cf2_ cf3_ cn_ cm_ cl_ e0_ e1_ e2_ ef0_ ef1_ ef2_ en_ em_ el_
          clear hv11 Hc11 He11 HB11
          refine (T2.out _).mono ?_
          rintro e w12 ⟨rfl, bb⟩
          have Hc12 := Lib.hid (blk_call bb Xc)
          have He12 := Lib.hid (blk_call bb Xe)
          have HB12 := Lib.hid (bel_onto XB bb XB.size)
          clear Xc Xe XB bb
          obtain ⟨c0_, c1_, c2_, c3_, cf0_, cf1_, cf2_, cf3_⟩ := at4 Hc12.out
          have cn_ := ne_blk Hc12.out
          have cm_ := Ne.symm (a := Bc) cn_
          have cl_ := lt_blk Hc12.out
          obtain ⟨e0_, e1_, e2_, ef0_, ef1_, ef2_⟩ := at3 He12.out
          have en_ := ne_blk He12.out
          have em_ := Ne.symm (a := Be) en_
          have el_ := lt_blk He12.out
          go_wp2_with fail
          refine cl_gen ?_
          intro v12 hv12
          have Xc : v12.heap[Bc]? = some (.cells #[.int .i64 X, .int .i64 Y, .int .i64 Z, .int .i64 v1] 114 (0, 0)) := by
            rw [hv12]
            (repeat' (first | (with_reducible exact Hc12.out) | (with_reducible exact heap_alloc_new _ _) | (with_reducible exact blk_new (by first | (simp; done) | omega)) | (with_reducible refine blk_drew ?_) | (with_reducible apply put4_0) | (with_reducible apply put4_1) | (with_reducible apply put4_2) | (with_reducible apply put4_3) | (with_reducible refine blk_else (by omega) ?_) | (with_reducible refine blk_old ?_)))
          have Xe : v12.heap[Be]? = some (.cells #[.int .u64 ad, .int .u64 an, .bool ab] 120 (0, 0)) := by
            rw [hv12]
            (repeat' (first | (with_reducible exact He12.out) | (with_reducible exact heap_alloc_new _ _) | (with_reducible exact blk_new (by first | (simp; done) | omega)) | (with_reducible refine blk_drew ?_) | (with_reducible apply put3_0) | (with_reducible apply put3_1) | (with_reducible apply put3_2) | (with_reducible refine blk_else (by omega) ?_) | (with_reducible refine blk_old ?_)))
          have XB : Below w.heap.size w v12 := by
            rw [hv12]
            (repeat' (first | (with_reducible exact HB12.out) | (with_reducible exact Below.refl _ _) | (with_reducible refine below_drewN _ ?_) | (with_reducible refine Below.drew ?_) | (with_reducible refine Below.setCell ?_ (by first | (simp; done) | omega) _) | (with_reducible refine Below.alloc ?_ (by have := HB12.out.size; simp; omega) _)))
          clear c0_ c1_ c2_ c3_ cf0_ cf1_ cf2_ cf3_ cn_ cm_ cl_ e0_ e1_ e2_ ef0_ ef1_ ef2_ en_ em_ el_
          clear hv12 Hc12 He12 HB12
          refine (M2.out _).mono ?_
          rintro e w13 ⟨rfl, bb⟩
          have Hc13 := Lib.hid (blk_call bb Xc)
          have He13 := Lib.hid (blk_call bb Xe)
          have HB13 := Lib.hid (bel_onto XB bb XB.size)
          clear Xc Xe XB bb
          obtain ⟨c0_, c1_, c2_, c3_, cf0_, cf1_, cf2_, cf3_⟩ := at4 Hc13.out
          have cn_ := ne_blk Hc13.out
          have cm_ := Ne.symm (a := Bc) cn_
          have cl_ := lt_blk Hc13.out
          obtain ⟨e0_, e1_, e2_, ef0_, ef1_, ef2_⟩ := at3 He13.out
          have en_ := ne_blk He13.out
          have em_ := Ne.symm (a := Be) en_
          have el_ := lt_blk He13.out
          go_wp2_with fail
          refine cl_gen ?_
          intro v13 hv13
          have Xc : v13.heap[Bc]? = some (.cells #[.int .i64 X, .int .i64 Y, .int .i64 Z, .int .i64 v1] 114 (0, 0)) := by
            rw [hv13]
            (repeat' (first | (with_reducible exact Hc13.out) | (with_reducible exact heap_alloc_new _ _) | (with_reducible exact blk_new (by first | (simp; done) | omega)) | (with_reducible refine blk_drew ?_) | (with_reducible apply put4_0) | (with_reducible apply put4_1) | (with_reducible apply put4_2) | (with_reducible apply put4_3) | (with_reducible refine blk_else (by omega) ?_) | (with_reducible refine blk_old ?_)))
          have Xe : v13.heap[Be]? = some (.cells #[.int .u64 ad, .int .u64 an, .bool ab] 120 (0, 0)) := by
            rw [hv13]
            (repeat' (first | (with_reducible exact He13.out) | (with_reducible exact heap_alloc_new _ _) | (with_reducible exact blk_new (by first | (simp; done) | omega)) | (with_reducible refine blk_drew ?_) | (with_reducible apply put3_0) | (with_reducible apply put3_1) | (with_reducible apply put3_2) | (with_reducible refine blk_else (by omega) ?_) | (with_reducible refine blk_old ?_)))
          have XB : Below w.heap.size w v13 := by
            rw [hv13]
            (repeat' (first | (with_reducible exact HB13.out) | (with_reducible exact Below.refl _ _) | (with_reducible refine below_drewN _ ?_) | (with_reducible refine Below.drew ?_) | (with_reducible refine Below.setCell ?_ (by first | (simp; done) | omega) _) | (with_reducible refine Below.alloc ?_ (by have := HB13.out.size; simp; omega) _)))
          clear c0_ c1_ c2_ c3_ cf0_ cf1_ cf2_ cf3_ cn_ cm_ cl_ e0_ e1_ e2_ ef0_ ef1_ ef2_ en_ em_ el_
          clear hv13 Hc13 He13 HB13
          refine (M1.out _).mono ?_
          rintro e w14 ⟨rfl, bb⟩
          have Hc14 := Lib.hid (blk_call bb Xc)
          have He14 := Lib.hid (blk_call bb Xe)
          have HB14 := Lib.hid (bel_onto XB bb XB.size)
          clear Xc Xe XB bb
          obtain ⟨c0_, c1_, c2_, c3_, cf0_, cf1_, cf2_, cf3_⟩ := at4 Hc14.out
          have cn_ := ne_blk Hc14.out
          have cm_ := Ne.symm (a := Bc) cn_
          have cl_ := lt_blk Hc14.out
          obtain ⟨e0_, e1_, e2_, ef0_, ef1_, ef2_⟩ := at3 He14.out
          have en_ := ne_blk He14.out
          have em_ := Ne.symm (a := Be) en_
          have el_ := lt_blk He14.out
          go_wp2
          refine wp_genc ?_
          intro v14 hv14
          have Xc : v14.heap[Bc]? = some (.cells #[.int .i64 X, .int .i64 Y, .int .i64 Z, .int .i64 v1] 114 (0, 0)) := by
            rw [hv14]
            (repeat' (first | (with_reducible exact Hc14.out) | (with_reducible exact heap_alloc_new _ _) | (with_reducible exact blk_new (by first | (simp; done) | omega)) | (with_reducible refine blk_drew ?_) | (with_reducible apply put4_0) | (with_reducible apply put4_1) | (with_reducible apply put4_2) | (with_reducible apply put4_3) | (with_reducible refine blk_else (by omega) ?_) | (with_reducible refine blk_old ?_)))
          have Xe : v14.heap[Be]? = some (.cells #[.int .u64 ad, .int .u64 an, .bool ab] 120 (0, 0)) := by
            rw [hv14]
            (repeat' (first | (with_reducible exact He14.out) | (with_reducible exact heap_alloc_new _ _) | (with_reducible exact blk_new (by first | (simp; done) | omega)) | (with_reducible refine blk_drew ?_) | (with_reducible apply put3_0) | (with_reducible apply put3_1) | (with_reducible apply put3_2) | (with_reducible refine blk_else (by omega) ?_) | (with_reducible refine blk_old ?_)))
          have XB : Below w.heap.size w v14 := by
            rw [hv14]
            (repeat' (first | (with_reducible exact HB14.out) | (with_reducible exact Below.refl _ _) | (with_reducible refine below_drewN _ ?_) | (with_reducible refine Below.drew ?_) | (with_reducible refine Below.setCell ?_ (by first | (simp; done) | omega) _) | (with_reducible refine Below.alloc ?_ (by have := HB14.out.size; simp; omega) _)))
          clear c0_ c1_ c2_ c3_ cf0_ cf1_ cf2_ cf3_ cn_ cm_ cl_ e0_ e1_ e2_ ef0_ ef1_ ef2_ en_ em_ el_
          clear hv14 Hc14 He14 HB14
          have Hc15 := Lib.hid Xc
          have He15 := Lib.hid Xe
          have HB15 := Lib.hid XB
          clear Xc Xe XB
          obtain ⟨c0_, c1_, c2_, c3_, cf0_, cf1_, cf2_, cf3_⟩ := at4 Hc15.out
          have cn_ := ne_blk Hc15.out
          have cm_ := Ne.symm (a := Bc) cn_
          have cl_ := lt_blk Hc15.out
          obtain ⟨e0_, e1_, e2_, ef0_, ef1_, ef2_⟩ := at3 He15.out
          have en_ := ne_blk He15.out
          have em_ := Ne.symm (a := Be) en_
          have el_ := lt_blk He15.out
          go_region_with (go_at_call 67; refine (S1.out _).mono ?_; rintro e u1x ⟨rfl, hu1x⟩; have Xc : u1x.heap[Bc]? = some (.cells #[.int .i64 X, .int .i64 Y, .int .i64 Z, .int .i64 v1] 114 (0, 0)) := blk_call hu1x (by (repeat' (first | (with_reducible exact Hc15.out) | (with_reducible exact heap_alloc_new _ _) | (with_reducible exact blk_new (by first | (simp; done) | omega)) | (with_reducible refine blk_drew ?_) | (with_reducible apply put1_0) | (with_reducible apply put2_0) | (with_reducible apply put2_1) | (with_reducible apply put3_0) | (with_reducible apply put3_1) | (with_reducible apply put3_2) | (with_reducible apply put4_0) | (with_reducible apply put4_1) | (with_reducible apply put4_2) | (with_reducible apply put4_3) | (with_reducible apply put5_0) | (with_reducible apply put5_1) | (with_reducible apply put5_2) | (with_reducible apply put5_3) | (with_reducible apply put5_4) | (with_reducible apply put6_0) | (with_reducible apply put6_1) | (with_reducible apply put6_2) | (with_reducible apply put6_3) | (with_reducible apply put6_4) | (with_reducible apply put6_5) | (with_reducible refine blk_else (by omega) ?_) | (with_reducible refine blk_old ?_)))); obtain ⟨c0_, c1_, c2_, c3_, cf0_, cf1_, cf2_, cf3_⟩ := at4 Xc; have cl_ := lt_blk Xc; have Xe : u1x.heap[Be]? = some (.cells #[.int .u64 ad, .int .u64 an, .bool ab] 120 (0, 0)) := blk_call hu1x (by (repeat' (first | (with_reducible exact He15.out) | (with_reducible exact heap_alloc_new _ _) | (with_reducible exact blk_new (by first | (simp; done) | omega)) | (with_reducible refine blk_drew ?_) | (with_reducible apply put1_0) | (with_reducible apply put2_0) | (with_reducible apply put2_1) | (with_reducible apply put3_0) | (with_reducible apply put3_1) | (with_reducible apply put3_2) | (with_reducible apply put4_0) | (with_reducible apply put4_1) | (with_reducible apply put4_2) | (with_reducible apply put4_3) | (with_reducible apply put5_0) | (with_reducible apply put5_1) | (with_reducible apply put5_2) | (with_reducible apply put5_3) | (with_reducible apply put5_4) | (with_reducible apply put6_0) | (with_reducible apply put6_1) | (with_reducible apply put6_2) | (with_reducible apply put6_3) | (with_reducible apply put6_4) | (with_reducible apply put6_5) | (with_reducible refine blk_else (by omega) ?_) | (with_reducible refine blk_old ?_)))); obtain ⟨e0_, e1_, e2_, ef0_, ef1_, ef2_⟩ := at3 Xe; have el_ := lt_blk Xe; have XB : Below w.heap.size w u1x := bel_call hu1x (by (repeat' (first | (with_reducible exact HB15.out) | (with_reducible exact Below.refl _ _) | (with_reducible refine below_drewN _ ?_) | (with_reducible refine Below.drew ?_) | (with_reducible refine Below.setCell ?_ (by first | (simp; done) | omega) _) | (with_reducible refine Below.alloc ?_ (by have := HB15.out.size; simp; omega) _)))) (by have := HB15.out.size; first | omega | (simp; omega)))
          all_goals
            clear cn_ cm_ en_ em_
            clear c0_ c1_ c2_ c3_ cf0_ cf1_ cf2_ cf3_ cl_ e0_ e1_ e2_ ef0_ ef1_ ef2_ el_
            clear Hc15 He15 HB15 hu1x
            have Hc16 := Lib.hid Xc
            have He16 := Lib.hid Xe
            have HB16 := Lib.hid XB
            clear Xc Xe XB
            obtain ⟨c0_, c1_, c2_, c3_, cf0_, cf1_, cf2_, cf3_⟩ := at4 Hc16.out
            have cn_ := ne_blk Hc16.out
            have cm_ := Ne.symm (a := Bc) cn_
            have cl_ := lt_blk Hc16.out
            obtain ⟨e0_, e1_, e2_, ef0_, ef1_, ef2_⟩ := at3 He16.out
            have en_ := ne_blk He16.out
            have em_ := Ne.symm (a := Be) en_
            have el_ := lt_blk He16.out
            go_wp2
            go_roundw
            case rel =>
              refine ⟨j + 1, v3, by go_num, by omega, HK3.out, HL3.out, ?_, ?_⟩
              · (repeat' (first | (with_reducible exact Hc16.out) | (with_reducible exact He16.out) | (with_reducible exact heap_alloc_new _ _) | (with_reducible exact blk_new (by first | (simp; done) | omega)) | (with_reducible refine blk_drew ?_) | (with_reducible apply put1_0) | (with_reducible apply put2_0) | (with_reducible apply put2_1) | (with_reducible apply put3_0) | (with_reducible apply put3_1) | (with_reducible apply put3_2) | (with_reducible apply put4_0) | (with_reducible apply put4_1) | (with_reducible apply put4_2) | (with_reducible apply put4_3) | (with_reducible apply put5_0) | (with_reducible apply put5_1) | (with_reducible apply put5_2) | (with_reducible apply put5_3) | (with_reducible apply put5_4) | (with_reducible apply put6_0) | (with_reducible apply put6_1) | (with_reducible apply put6_2) | (with_reducible apply put6_3) | (with_reducible apply put6_4) | (with_reducible apply put6_5) | (with_reducible refine blk_else (by omega) ?_) | (with_reducible refine blk_old ?_)))
              · (repeat' (first | (with_reducible exact HB16.out) | (with_reducible exact Below.refl _ _) | (with_reducible refine below_drewN _ ?_) | (with_reducible refine Below.drew ?_) | (with_reducible refine Below.setCell ?_ (by first | (simp; done) | omega) _) | (with_reducible refine Below.alloc ?_ (by have := HB16.out.size; simp; omega) _)))
            case measure => simp [intOf] <;> omega
        · have hp : 0 < N := by omega
          have gp : decide (0 < N) = true := decide_eq_true hp
          have g0 : (N == 0) = false := by simp [hN]
          have gw : IntKind.u64.wrap (N - 1) = N - 1 := by rw [IntKind.wrap_u64]; omega
          have T3 := Lib.hid (fun W => cr_tick ⟨X, Y, Z, v1⟩ (N - 1) (by omega) (by omega) true W)
          have M3 := Lib.hid (fun W => cr_may (CD.tick ⟨X, Y, Z, v1⟩ (N - 1) true) W)
          rw [q3 hp] at M3
          generalize CD.tick ⟨X, Y, Z, v1⟩ (N - 1) true = c3 at *
          obtain ⟨x3, y3, z3, u3⟩ := c3
          simp only [cd_val] at T3 M3
          rw [g0] at M1
          clear q3 hN
          obtain ⟨c0_, c1_, c2_, c3_, cf0_, cf1_, cf2_, cf3_⟩ := at4 Hc9.out
          have cn_ := ne_blk Hc9.out
          have cm_ := Ne.symm (a := Bc) cn_
          have cl_ := lt_blk Hc9.out
          go_wp2_with fail
          refine cl_gen ?_
          intro v9 hv9
          have Xc : v9.heap[Bc]? = some (.cells #[.int .i64 X, .int .i64 Y, .int .i64 Z, .int .i64 v] 114 (0, 0)) := by
            rw [hv9]
            (repeat' (first | (with_reducible exact Hc9.out) | (with_reducible exact heap_alloc_new _ _) | (with_reducible exact blk_new (by first | (simp; done) | omega)) | (with_reducible refine blk_drew ?_) | (with_reducible apply put4_0) | (with_reducible apply put4_1) | (with_reducible apply put4_2) | (with_reducible apply put4_3) | (with_reducible refine blk_else (by omega) ?_) | (with_reducible refine blk_old ?_)))
          have XB : Below w.heap.size w v9 := by
            rw [hv9]
            (repeat' (first | (with_reducible exact HB9.out) | (with_reducible exact Below.refl _ _) | (with_reducible refine below_drewN _ ?_) | (with_reducible refine Below.drew ?_) | (with_reducible refine Below.setCell ?_ (by first | (simp; done) | omega) _) | (with_reducible refine Below.alloc ?_ (by have := HB9.out.size; simp; omega) _)))
          have Xe : v9.heap[wr.heap.size]? = some (.cells #[.int .u64 ad, .int .u64 an, .bool ab] 120 (0, 0)) := by
            rw [hv9]
            (repeat' (first | (with_reducible exact heap_alloc_new _ _) | (with_reducible exact blk_new (by first | (simp; done) | omega)) | (with_reducible refine blk_drew ?_) | (with_reducible apply put3_0) | (with_reducible apply put3_1) | (with_reducible apply put3_2) | (with_reducible refine blk_else (by omega) ?_) | (with_reducible refine blk_old ?_)))
          obtain ⟨Be, hBe⟩ : ∃ x, x = wr.heap.size := ⟨_, rfl⟩
          rw [← hBe] at Xe
          try rw [← hBe]
          have nec : ¬ Be = Bc := by have := lt_blk Hc9.out; omega
          have nce : ¬ Bc = Be := fun h => nec h.symm
          have lee : w.heap.size ≤ Be := by have := HB9.out.size; omega
          clear hBe
          clear c0_ c1_ c2_ c3_ cf0_ cf1_ cf2_ cf3_ cn_ cm_ cl_ d0_ d1_ d2_
          clear hv9 Hc9 HB9
          refine (T1.out _).mono ?_
          rintro e w10 ⟨rfl, bb⟩
          have Hc10 := Lib.hid (blk_call bb Xc)
          have He10 := Lib.hid (blk_call bb Xe)
          have HB10 := Lib.hid (bel_onto XB bb XB.size)
          clear Xc Xe XB bb
          obtain ⟨c0_, c1_, c2_, c3_, cf0_, cf1_, cf2_, cf3_⟩ := at4 Hc10.out
          have cn_ := ne_blk Hc10.out
          have cm_ := Ne.symm (a := Bc) cn_
          have cl_ := lt_blk Hc10.out
          obtain ⟨e0_, e1_, e2_, ef0_, ef1_, ef2_⟩ := at3 He10.out
          have en_ := ne_blk He10.out
          have em_ := Ne.symm (a := Be) en_
          have el_ := lt_blk He10.out
          go_wp2_with fail
          refine cl_gen ?_
          intro v10 hv10
          have Xc : v10.heap[Bc]? = some (.cells #[.int .i64 X, .int .i64 Y, .int .i64 Z, .int .i64 v1] 114 (0, 0)) := by
            rw [hv10]
            (repeat' (first | (with_reducible exact Hc10.out) | (with_reducible exact heap_alloc_new _ _) | (with_reducible exact blk_new (by first | (simp; done) | omega)) | (with_reducible refine blk_drew ?_) | (with_reducible apply put4_0) | (with_reducible apply put4_1) | (with_reducible apply put4_2) | (with_reducible apply put4_3) | (with_reducible refine blk_else (by omega) ?_) | (with_reducible refine blk_old ?_)))
          have Xe : v10.heap[Be]? = some (.cells #[.int .u64 ad, .int .u64 an, .bool ab] 120 (0, 0)) := by
            rw [hv10]
            (repeat' (first | (with_reducible exact He10.out) | (with_reducible exact heap_alloc_new _ _) | (with_reducible exact blk_new (by first | (simp; done) | omega)) | (with_reducible refine blk_drew ?_) | (with_reducible apply put3_0) | (with_reducible apply put3_1) | (with_reducible apply put3_2) | (with_reducible refine blk_else (by omega) ?_) | (with_reducible refine blk_old ?_)))
          have XB : Below w.heap.size w v10 := by
            rw [hv10]
            (repeat' (first | (with_reducible exact HB10.out) | (with_reducible exact Below.refl _ _) | (with_reducible refine below_drewN _ ?_) | (with_reducible refine Below.drew ?_) | (with_reducible refine Below.setCell ?_ (by first | (simp; done) | omega) _) | (with_reducible refine Below.alloc ?_ (by have := HB10.out.size; simp; omega) _)))
          clear c0_ c1_ c2_ c3_ cf0_ cf1_ cf2_ cf3_ cn_ cm_ cl_ e0_ e1_ e2_ ef0_ ef1_ ef2_ en_ em_ el_
          clear hv10 Hc10 He10 HB10
          refine (WT.out _).mono ?_
          rintro e w11 ⟨rfl, bb⟩
          have Hc11 := Lib.hid (blk_call bb Xc)
          have He11 := Lib.hid (blk_call bb Xe)
          have HB11 := Lib.hid (bel_onto XB bb XB.size)
          clear Xc Xe XB bb
          obtain ⟨c0_, c1_, c2_, c3_, cf0_, cf1_, cf2_, cf3_⟩ := at4 Hc11.out
          have cn_ := ne_blk Hc11.out
          have cm_ := Ne.symm (a := Bc) cn_
          have cl_ := lt_blk Hc11.out
          obtain ⟨e0_, e1_, e2_, ef0_, ef1_, ef2_⟩ := at3 He11.out
          have en_ := ne_blk He11.out
          have em_ := Ne.symm (a := Be) en_
          have el_ := lt_blk He11.out
          go_wp2_with fail
          refine cl_gen ?_
          intro v11 hv11
          have Xc : v11.heap[Bc]? = some (.cells #[.int .i64 X, .int .i64 Y, .int .i64 Z, .int .i64 v1] 114 (0, 0)) := by
            rw [hv11]
            (repeat' (first | (with_reducible exact Hc11.out) | (with_reducible exact heap_alloc_new _ _) | (with_reducible exact blk_new (by first | (simp; done) | omega)) | (with_reducible refine blk_drew ?_) | (with_reducible apply put4_0) | (with_reducible apply put4_1) | (with_reducible apply put4_2) | (with_reducible apply put4_3) | (with_reducible refine blk_else (by omega) ?_) | (with_reducible refine blk_old ?_)))
          have Xe : v11.heap[Be]? = some (.cells #[.int .u64 ad, .int .u64 an, .bool ab] 120 (0, 0)) := by
            rw [hv11]
            (repeat' (first | (with_reducible exact He11.out) | (with_reducible exact heap_alloc_new _ _) | (with_reducible exact blk_new (by first | (simp; done) | omega)) | (with_reducible refine blk_drew ?_) | (with_reducible apply put3_0) | (with_reducible apply put3_1) | (with_reducible apply put3_2) | (with_reducible refine blk_else (by omega) ?_) | (with_reducible refine blk_old ?_)))
          have XB : Below w.heap.size w v11 := by
            rw [hv11]
            (repeat' (first | (with_reducible exact HB11.out) | (with_reducible exact Below.refl _ _) | (with_reducible refine below_drewN _ ?_) | (with_reducible refine Below.drew ?_) | (with_reducible refine Below.setCell ?_ (by first | (simp; done) | omega) _) | (with_reducible refine Below.alloc ?_ (by have := HB11.out.size; simp; omega) _)))
          clear c0_ c1_ c2_ c3_ cf0_ cf1_ cf2_ cf3_ cn_ cm_ cl_ e0_ e1_ e2_ ef0_ ef1_ ef2_ en_ em_ el_
          clear hv11 Hc11 He11 HB11
          refine (T2.out _).mono ?_
          rintro e w12 ⟨rfl, bb⟩
          have Hc12 := Lib.hid (blk_call bb Xc)
          have He12 := Lib.hid (blk_call bb Xe)
          have HB12 := Lib.hid (bel_onto XB bb XB.size)
          clear Xc Xe XB bb
          obtain ⟨c0_, c1_, c2_, c3_, cf0_, cf1_, cf2_, cf3_⟩ := at4 Hc12.out
          have cn_ := ne_blk Hc12.out
          have cm_ := Ne.symm (a := Bc) cn_
          have cl_ := lt_blk Hc12.out
          obtain ⟨e0_, e1_, e2_, ef0_, ef1_, ef2_⟩ := at3 He12.out
          have en_ := ne_blk He12.out
          have em_ := Ne.symm (a := Be) en_
          have el_ := lt_blk He12.out
          go_wp2_with fail
          refine cl_gen ?_
          intro v12 hv12
          have Xc : v12.heap[Bc]? = some (.cells #[.int .i64 X, .int .i64 Y, .int .i64 Z, .int .i64 v1] 114 (0, 0)) := by
            rw [hv12]
            (repeat' (first | (with_reducible exact Hc12.out) | (with_reducible exact heap_alloc_new _ _) | (with_reducible exact blk_new (by first | (simp; done) | omega)) | (with_reducible refine blk_drew ?_) | (with_reducible apply put4_0) | (with_reducible apply put4_1) | (with_reducible apply put4_2) | (with_reducible apply put4_3) | (with_reducible refine blk_else (by omega) ?_) | (with_reducible refine blk_old ?_)))
          have Xe : v12.heap[Be]? = some (.cells #[.int .u64 ad, .int .u64 an, .bool ab] 120 (0, 0)) := by
            rw [hv12]
            (repeat' (first | (with_reducible exact He12.out) | (with_reducible exact heap_alloc_new _ _) | (with_reducible exact blk_new (by first | (simp; done) | omega)) | (with_reducible refine blk_drew ?_) | (with_reducible apply put3_0) | (with_reducible apply put3_1) | (with_reducible apply put3_2) | (with_reducible refine blk_else (by omega) ?_) | (with_reducible refine blk_old ?_)))
          have XB : Below w.heap.size w v12 := by
            rw [hv12]
            (repeat' (first | (with_reducible exact HB12.out) | (with_reducible exact Below.refl _ _) | (with_reducible refine below_drewN _ ?_) | (with_reducible refine Below.drew ?_) | (with_reducible refine Below.setCell ?_ (by first | (simp; done) | omega) _) | (with_reducible refine Below.alloc ?_ (by have := HB12.out.size; simp; omega) _)))
          clear c0_ c1_ c2_ c3_ cf0_ cf1_ cf2_ cf3_ cn_ cm_ cl_ e0_ e1_ e2_ ef0_ ef1_ ef2_ en_ em_ el_
          clear hv12 Hc12 He12 HB12
          refine (M2.out _).mono ?_
          rintro e w13 ⟨rfl, bb⟩
          have Hc13 := Lib.hid (blk_call bb Xc)
          have He13 := Lib.hid (blk_call bb Xe)
          have HB13 := Lib.hid (bel_onto XB bb XB.size)
          clear Xc Xe XB bb
          obtain ⟨c0_, c1_, c2_, c3_, cf0_, cf1_, cf2_, cf3_⟩ := at4 Hc13.out
          have cn_ := ne_blk Hc13.out
          have cm_ := Ne.symm (a := Bc) cn_
          have cl_ := lt_blk Hc13.out
          obtain ⟨e0_, e1_, e2_, ef0_, ef1_, ef2_⟩ := at3 He13.out
          have en_ := ne_blk He13.out
          have em_ := Ne.symm (a := Be) en_
          have el_ := lt_blk He13.out
          go_wp2_with fail
          refine cl_gen ?_
          intro v13 hv13
          have Xc : v13.heap[Bc]? = some (.cells #[.int .i64 X, .int .i64 Y, .int .i64 Z, .int .i64 v1] 114 (0, 0)) := by
            rw [hv13]
            (repeat' (first | (with_reducible exact Hc13.out) | (with_reducible exact heap_alloc_new _ _) | (with_reducible exact blk_new (by first | (simp; done) | omega)) | (with_reducible refine blk_drew ?_) | (with_reducible apply put4_0) | (with_reducible apply put4_1) | (with_reducible apply put4_2) | (with_reducible apply put4_3) | (with_reducible refine blk_else (by omega) ?_) | (with_reducible refine blk_old ?_)))
          have Xe : v13.heap[Be]? = some (.cells #[.int .u64 ad, .int .u64 an, .bool ab] 120 (0, 0)) := by
            rw [hv13]
            (repeat' (first | (with_reducible exact He13.out) | (with_reducible exact heap_alloc_new _ _) | (with_reducible exact blk_new (by first | (simp; done) | omega)) | (with_reducible refine blk_drew ?_) | (with_reducible apply put3_0) | (with_reducible apply put3_1) | (with_reducible apply put3_2) | (with_reducible refine blk_else (by omega) ?_) | (with_reducible refine blk_old ?_)))
          have XB : Below w.heap.size w v13 := by
            rw [hv13]
            (repeat' (first | (with_reducible exact HB13.out) | (with_reducible exact Below.refl _ _) | (with_reducible refine below_drewN _ ?_) | (with_reducible refine Below.drew ?_) | (with_reducible refine Below.setCell ?_ (by first | (simp; done) | omega) _) | (with_reducible refine Below.alloc ?_ (by have := HB13.out.size; simp; omega) _)))
          clear c0_ c1_ c2_ c3_ cf0_ cf1_ cf2_ cf3_ cn_ cm_ cl_ e0_ e1_ e2_ ef0_ ef1_ ef2_ en_ em_ el_
          clear hv13 Hc13 He13 HB13
          refine (T3.out _).mono ?_
          rintro e w14 ⟨rfl, bb⟩
          have Hc14 := Lib.hid (blk_call bb Xc)
          have He14 := Lib.hid (blk_call bb Xe)
          have HB14 := Lib.hid (bel_onto XB bb XB.size)
          clear Xc Xe XB bb
          obtain ⟨c0_, c1_, c2_, c3_, cf0_, cf1_, cf2_, cf3_⟩ := at4 Hc14.out
          have cn_ := ne_blk Hc14.out
          have cm_ := Ne.symm (a := Bc) cn_
          have cl_ := lt_blk Hc14.out
          obtain ⟨e0_, e1_, e2_, ef0_, ef1_, ef2_⟩ := at3 He14.out
          have en_ := ne_blk He14.out
          have em_ := Ne.symm (a := Be) en_
          have el_ := lt_blk He14.out
          go_wp2_with fail
          refine cl_gen ?_
          intro v14 hv14
          have Xc : v14.heap[Bc]? = some (.cells #[.int .i64 X, .int .i64 Y, .int .i64 Z, .int .i64 v1] 114 (0, 0)) := by
            rw [hv14]
            (repeat' (first | (with_reducible exact Hc14.out) | (with_reducible exact heap_alloc_new _ _) | (with_reducible exact blk_new (by first | (simp; done) | omega)) | (with_reducible refine blk_drew ?_) | (with_reducible apply put4_0) | (with_reducible apply put4_1) | (with_reducible apply put4_2) | (with_reducible apply put4_3) | (with_reducible refine blk_else (by omega) ?_) | (with_reducible refine blk_old ?_)))
          have Xe : v14.heap[Be]? = some (.cells #[.int .u64 ad, .int .u64 an, .bool ab] 120 (0, 0)) := by
            rw [hv14]
            (repeat' (first | (with_reducible exact He14.out) | (with_reducible exact heap_alloc_new _ _) | (with_reducible exact blk_new (by first | (simp; done) | omega)) | (with_reducible refine blk_drew ?_) | (with_reducible apply put3_0) | (with_reducible apply put3_1) | (with_reducible apply put3_2) | (with_reducible refine blk_else (by omega) ?_) | (with_reducible refine blk_old ?_)))
          have XB : Below w.heap.size w v14 := by
            rw [hv14]
            (repeat' (first | (with_reducible exact HB14.out) | (with_reducible exact Below.refl _ _) | (with_reducible refine below_drewN _ ?_) | (with_reducible refine Below.drew ?_) | (with_reducible refine Below.setCell ?_ (by first | (simp; done) | omega) _) | (with_reducible refine Below.alloc ?_ (by have := HB14.out.size; simp; omega) _)))
          clear c0_ c1_ c2_ c3_ cf0_ cf1_ cf2_ cf3_ cn_ cm_ cl_ e0_ e1_ e2_ ef0_ ef1_ ef2_ en_ em_ el_
          clear hv14 Hc14 He14 HB14
          refine (M3.out _).mono ?_
          rintro e w15 ⟨rfl, bb⟩
          have Hc15 := Lib.hid (blk_call bb Xc)
          have He15 := Lib.hid (blk_call bb Xe)
          have HB15 := Lib.hid (bel_onto XB bb XB.size)
          clear Xc Xe XB bb
          obtain ⟨c0_, c1_, c2_, c3_, cf0_, cf1_, cf2_, cf3_⟩ := at4 Hc15.out
          have cn_ := ne_blk Hc15.out
          have cm_ := Ne.symm (a := Bc) cn_
          have cl_ := lt_blk Hc15.out
          obtain ⟨e0_, e1_, e2_, ef0_, ef1_, ef2_⟩ := at3 He15.out
          have en_ := ne_blk He15.out
          have em_ := Ne.symm (a := Be) en_
          have el_ := lt_blk He15.out
          go_wp2_with fail
          refine cl_gen ?_
          intro v15 hv15
          have Xc : v15.heap[Bc]? = some (.cells #[.int .i64 X, .int .i64 Y, .int .i64 Z, .int .i64 v1] 114 (0, 0)) := by
            rw [hv15]
            (repeat' (first | (with_reducible exact Hc15.out) | (with_reducible exact heap_alloc_new _ _) | (with_reducible exact blk_new (by first | (simp; done) | omega)) | (with_reducible refine blk_drew ?_) | (with_reducible apply put4_0) | (with_reducible apply put4_1) | (with_reducible apply put4_2) | (with_reducible apply put4_3) | (with_reducible refine blk_else (by omega) ?_) | (with_reducible refine blk_old ?_)))
          have Xe : v15.heap[Be]? = some (.cells #[.int .u64 ad, .int .u64 an, .bool ab] 120 (0, 0)) := by
            rw [hv15]
            (repeat' (first | (with_reducible exact He15.out) | (with_reducible exact heap_alloc_new _ _) | (with_reducible exact blk_new (by first | (simp; done) | omega)) | (with_reducible refine blk_drew ?_) | (with_reducible apply put3_0) | (with_reducible apply put3_1) | (with_reducible apply put3_2) | (with_reducible refine blk_else (by omega) ?_) | (with_reducible refine blk_old ?_)))
          have XB : Below w.heap.size w v15 := by
            rw [hv15]
            (repeat' (first | (with_reducible exact HB15.out) | (with_reducible exact Below.refl _ _) | (with_reducible refine below_drewN _ ?_) | (with_reducible refine Below.drew ?_) | (with_reducible refine Below.setCell ?_ (by first | (simp; done) | omega) _) | (with_reducible refine Below.alloc ?_ (by have := HB15.out.size; simp; omega) _)))
          clear c0_ c1_ c2_ c3_ cf0_ cf1_ cf2_ cf3_ cn_ cm_ cl_ e0_ e1_ e2_ ef0_ ef1_ ef2_ en_ em_ el_
          clear hv15 Hc15 He15 HB15
          refine (M1.out _).mono ?_
          rintro e w16 ⟨rfl, bb⟩
          have Hc16 := Lib.hid (blk_call bb Xc)
          have He16 := Lib.hid (blk_call bb Xe)
          have HB16 := Lib.hid (bel_onto XB bb XB.size)
          clear Xc Xe XB bb
          obtain ⟨c0_, c1_, c2_, c3_, cf0_, cf1_, cf2_, cf3_⟩ := at4 Hc16.out
          have cn_ := ne_blk Hc16.out
          have cm_ := Ne.symm (a := Bc) cn_
          have cl_ := lt_blk Hc16.out
          obtain ⟨e0_, e1_, e2_, ef0_, ef1_, ef2_⟩ := at3 He16.out
          have en_ := ne_blk He16.out
          have em_ := Ne.symm (a := Be) en_
          have el_ := lt_blk He16.out
          go_wp2
          refine wp_genc ?_
          intro v16 hv16
          have Xc : v16.heap[Bc]? = some (.cells #[.int .i64 X, .int .i64 Y, .int .i64 Z, .int .i64 v1] 114 (0, 0)) := by
            rw [hv16]
            (repeat' (first | (with_reducible exact Hc16.out) | (with_reducible exact heap_alloc_new _ _) | (with_reducible exact blk_new (by first | (simp; done) | omega)) | (with_reducible refine blk_drew ?_) | (with_reducible apply put4_0) | (with_reducible apply put4_1) | (with_reducible apply put4_2) | (with_reducible apply put4_3) | (with_reducible refine blk_else (by omega) ?_) | (with_reducible refine blk_old ?_)))
          have Xe : v16.heap[Be]? = some (.cells #[.int .u64 ad, .int .u64 an, .bool ab] 120 (0, 0)) := by
            rw [hv16]
            (repeat' (first | (with_reducible exact He16.out) | (with_reducible exact heap_alloc_new _ _) | (with_reducible exact blk_new (by first | (simp; done) | omega)) | (with_reducible refine blk_drew ?_) | (with_reducible apply put3_0) | (with_reducible apply put3_1) | (with_reducible apply put3_2) | (with_reducible refine blk_else (by omega) ?_) | (with_reducible refine blk_old ?_)))
          have XB : Below w.heap.size w v16 := by
            rw [hv16]
            (repeat' (first | (with_reducible exact HB16.out) | (with_reducible exact Below.refl _ _) | (with_reducible refine below_drewN _ ?_) | (with_reducible refine Below.drew ?_) | (with_reducible refine Below.setCell ?_ (by first | (simp; done) | omega) _) | (with_reducible refine Below.alloc ?_ (by have := HB16.out.size; simp; omega) _)))
          clear c0_ c1_ c2_ c3_ cf0_ cf1_ cf2_ cf3_ cn_ cm_ cl_ e0_ e1_ e2_ ef0_ ef1_ ef2_ en_ em_ el_
          clear hv16 Hc16 He16 HB16
          have Hc17 := Lib.hid Xc
          have He17 := Lib.hid Xe
          have HB17 := Lib.hid XB
          clear Xc Xe XB
          obtain ⟨c0_, c1_, c2_, c3_, cf0_, cf1_, cf2_, cf3_⟩ := at4 Hc17.out
          have cn_ := ne_blk Hc17.out
          have cm_ := Ne.symm (a := Bc) cn_
          have cl_ := lt_blk Hc17.out
          obtain ⟨e0_, e1_, e2_, ef0_, ef1_, ef2_⟩ := at3 He17.out
          have en_ := ne_blk He17.out
          have em_ := Ne.symm (a := Be) en_
          have el_ := lt_blk He17.out
          go_region_with (go_at_call 67; refine (S1.out _).mono ?_; rintro e u1x ⟨rfl, hu1x⟩; have Xc : u1x.heap[Bc]? = some (.cells #[.int .i64 X, .int .i64 Y, .int .i64 Z, .int .i64 v1] 114 (0, 0)) := blk_call hu1x (by (repeat' (first | (with_reducible exact Hc17.out) | (with_reducible exact heap_alloc_new _ _) | (with_reducible exact blk_new (by first | (simp; done) | omega)) | (with_reducible refine blk_drew ?_) | (with_reducible apply put1_0) | (with_reducible apply put2_0) | (with_reducible apply put2_1) | (with_reducible apply put3_0) | (with_reducible apply put3_1) | (with_reducible apply put3_2) | (with_reducible apply put4_0) | (with_reducible apply put4_1) | (with_reducible apply put4_2) | (with_reducible apply put4_3) | (with_reducible apply put5_0) | (with_reducible apply put5_1) | (with_reducible apply put5_2) | (with_reducible apply put5_3) | (with_reducible apply put5_4) | (with_reducible apply put6_0) | (with_reducible apply put6_1) | (with_reducible apply put6_2) | (with_reducible apply put6_3) | (with_reducible apply put6_4) | (with_reducible apply put6_5) | (with_reducible refine blk_else (by omega) ?_) | (with_reducible refine blk_old ?_)))); obtain ⟨c0_, c1_, c2_, c3_, cf0_, cf1_, cf2_, cf3_⟩ := at4 Xc; have cl_ := lt_blk Xc; have Xe : u1x.heap[Be]? = some (.cells #[.int .u64 ad, .int .u64 an, .bool ab] 120 (0, 0)) := blk_call hu1x (by (repeat' (first | (with_reducible exact He17.out) | (with_reducible exact heap_alloc_new _ _) | (with_reducible exact blk_new (by first | (simp; done) | omega)) | (with_reducible refine blk_drew ?_) | (with_reducible apply put1_0) | (with_reducible apply put2_0) | (with_reducible apply put2_1) | (with_reducible apply put3_0) | (with_reducible apply put3_1) | (with_reducible apply put3_2) | (with_reducible apply put4_0) | (with_reducible apply put4_1) | (with_reducible apply put4_2) | (with_reducible apply put4_3) | (with_reducible apply put5_0) | (with_reducible apply put5_1) | (with_reducible apply put5_2) | (with_reducible apply put5_3) | (with_reducible apply put5_4) | (with_reducible apply put6_0) | (with_reducible apply put6_1) | (with_reducible apply put6_2) | (with_reducible apply put6_3) | (with_reducible apply put6_4) | (with_reducible apply put6_5) | (with_reducible refine blk_else (by omega) ?_) | (with_reducible refine blk_old ?_)))); obtain ⟨e0_, e1_, e2_, ef0_, ef1_, ef2_⟩ := at3 Xe; have el_ := lt_blk Xe; have XB : Below w.heap.size w u1x := bel_call hu1x (by (repeat' (first | (with_reducible exact HB17.out) | (with_reducible exact Below.refl _ _) | (with_reducible refine below_drewN _ ?_) | (with_reducible refine Below.drew ?_) | (with_reducible refine Below.setCell ?_ (by first | (simp; done) | omega) _) | (with_reducible refine Below.alloc ?_ (by have := HB17.out.size; simp; omega) _)))) (by have := HB17.out.size; first | omega | (simp; omega)))
          all_goals
            clear cn_ cm_ en_ em_
            clear c0_ c1_ c2_ c3_ cf0_ cf1_ cf2_ cf3_ cl_ e0_ e1_ e2_ ef0_ ef1_ ef2_ el_
            clear Hc17 He17 HB17 hu1x
            have Hc18 := Lib.hid Xc
            have He18 := Lib.hid Xe
            have HB18 := Lib.hid XB
            clear Xc Xe XB
            obtain ⟨c0_, c1_, c2_, c3_, cf0_, cf1_, cf2_, cf3_⟩ := at4 Hc18.out
            have cn_ := ne_blk Hc18.out
            have cm_ := Ne.symm (a := Bc) cn_
            have cl_ := lt_blk Hc18.out
            obtain ⟨e0_, e1_, e2_, ef0_, ef1_, ef2_⟩ := at3 He18.out
            have en_ := ne_blk He18.out
            have em_ := Ne.symm (a := Be) en_
            have el_ := lt_blk He18.out
            go_wp2
            go_roundw
            case rel =>
              refine ⟨j + 1, v3, by go_num, by omega, HK3.out, HL3.out, ?_, ?_⟩
              · (repeat' (first | (with_reducible exact Hc18.out) | (with_reducible exact He18.out) | (with_reducible exact heap_alloc_new _ _) | (with_reducible exact blk_new (by first | (simp; done) | omega)) | (with_reducible refine blk_drew ?_) | (with_reducible apply put1_0) | (with_reducible apply put2_0) | (with_reducible apply put2_1) | (with_reducible apply put3_0) | (with_reducible apply put3_1) | (with_reducible apply put3_2) | (with_reducible apply put4_0) | (with_reducible apply put4_1) | (with_reducible apply put4_2) | (with_reducible apply put4_3) | (with_reducible apply put5_0) | (with_reducible apply put5_1) | (with_reducible apply put5_2) | (with_reducible apply put5_3) | (with_reducible apply put5_4) | (with_reducible apply put6_0) | (with_reducible apply put6_1) | (with_reducible apply put6_2) | (with_reducible apply put6_3) | (with_reducible apply put6_4) | (with_reducible apply put6_5) | (with_reducible refine blk_else (by omega) ?_) | (with_reducible refine blk_old ?_)))
              · (repeat' (first | (with_reducible exact HB18.out) | (with_reducible exact Below.refl _ _) | (with_reducible refine below_drewN _ ?_) | (with_reducible refine Below.drew ?_) | (with_reducible refine Below.setCell ?_ (by first | (simp; done) | omega) _) | (with_reducible refine Below.alloc ?_ (by have := HB18.out.size; simp; omega) _)))
            case measure => simp [intOf] <;> omega
      · obtain rfl : j = n := by omega
        clear xb hk hv
        go_wp2_with fail
        refine cl_gen ?_
        intro v9 hv9
        have XB : Below w.heap.size w v9 := by
          rw [hv9]
          (repeat' (first | (with_reducible exact HB9.out) | (with_reducible exact Below.refl _ _) | (with_reducible refine below_drewN _ ?_) | (with_reducible refine Below.drew ?_) | (with_reducible refine Below.setCell ?_ (by first | (simp; done) | omega) _) | (with_reducible refine Below.alloc ?_ (by have := HB9.out.size; simp; omega) _)))
        clear hv9 HB9
        refine (LV.out _).mono ?_
        rintro e w10 ⟨rfl, bb⟩
        have HB10 := Lib.hid (bel_onto XB bb XB.size)
        clear XB bb
        go_wp2
        go_ret
        exact ⟨rfl, HB10.out⟩
end Go.Proofs.Ytgmdhanbeafagaa
