/-
  The law on which colour is no better, a part of its cases. No condition.
-/
import Derived.Test.YtgmdhanbeafagaaMt5h
namespace Go.Proofs.Ytgmdhanbeafagaa
set_option linter.unusedVariables false
set_option linter.unusedSimpArgs false
open Go.ChangeShapes Go.WideShapes Go.ChangeAt Go.RowKit
attribute [local go_sem] alloc_drewN setCell_drewN

set_option maxRecDepth 100000 in
set_option maxHeartbeats 4000000 in
theorem walk_meterWorse2 (r : Int) (r0 : 0 ≤ r) (r1 : r ≤ 18446744073709551615) (n : Int) (n0 : 0 ≤ n) (n1 : n ≤ 18446744073709551615) (f : Int) (f0 : 0 ≤ f) (f1 : f ≤ 18446744073709551615) (a : Int) (a0 : 0 ≤ a) (a1 : a ≤ 18446744073709551615) (b : Int) (b0 : 0 ≤ b) (b1 : b ≤ 18446744073709551615) (s : Int) (s0 : 0 ≤ s) (s1 : s ≤ 18446744073709551615) (q : Int) (q0 : 0 ≤ q) (q1 : q ≤ 18446744073709551615) (m : Int) (m0 : 0 ≤ m) (m1 : m ≤ 18446744073709551615) (g : Int) (g0 : 0 ≤ g) (g1 : g ≤ 18446744073709551615) (c : Int) (c0 : 0 ≤ c) (c1 : c ≤ 18446744073709551615) (d : Int) (d0 : 0 ≤ d) (d1 : d ≤ 18446744073709551615) (y : Int) (y0 : 0 ≤ y) (y1 : y ≤ 18446744073709551615) (k : Int) (k0 : 0 ≤ k) (k1 : k ≤ 18446744073709551615) (h : Int) (h0 : -9223372036854775808 ≤ h) (h1 : h ≤ 9223372036854775807)  (hl1 : decide (h < 1) = false) (hl2 : decide (3 < h) = false) (hl : lst21 h = h) (w : World) :
    Calls Try.prog 8 #[.agg #[.int .u64 r, .int .u64 n, .int .u64 f, .int .u64 a, .int .u64 b], .agg #[.int .u64 s, .int .u64 q, .int .u64 m, .int .u64 g, .int .u64 c, .int .u64 d], .agg #[.int .u64 y, .int .u64 k, .int .i64 h]] w fun e w' => e = .returned (.bool true) ∧ Below w.heap.size w w' := by
  have LV := Lib.hid (fun W => lives21 W)
  have hm : Try.prog.eqGuardType Try.prog.depth 61 = false := by kernel_rfl
  have hm2 : Try.prog.eqGuardType Try.prog.depth 65 = false := by kernel_rfl
  have C1 := Lib.hid (fun W => mo_col ⟨r, n, f, a, b⟩ ⟨⟨r0, r1⟩, ⟨n0, n1⟩, ⟨f0, f1⟩, ⟨a0, a1⟩, b0, b1⟩ k k0 k1 h W)
  have C2 := Lib.hid (fun W => mt_col ⟨s, q, m, g, c, d⟩ ⟨⟨s0, s1⟩, ⟨q0, q1⟩, ⟨m0, m1⟩, ⟨g0, g1⟩, ⟨c0, c1⟩, d0, d1⟩ k k0 k1 h W)
  have M1 := Lib.hid (fun W => (mo_rmay r n f a b W).mono (fun e w' h => (⟨h.1, h.2 ▸ (Below.refl _ W).alloc (Nat.le_refl _) _⟩ : _ ∧ Below W.heap.size W w')))
  have M2 := Lib.hid (fun W => (mt_rmay s q m g c d W).mono (fun e w' h => (⟨h.1, h.2 ▸ (Below.refl _ W).alloc (Nat.le_refl _) _⟩ : _ ∧ Below W.heap.size W w')))
  have W1 := mo_worse ⟨r, n, f, a, b⟩ k h
  have W2 := mt_worse ⟨s, q, m, g, c, d⟩ k h
  rw [← mor_ok] at W1
  rw [← mtr_ok] at W2
  generalize mor r n f a b = e1 at *
  generalize mtr s q m g c d = e2 at *
  generalize MO.col ⟨r, n, f, a, b⟩ k h = p1 at *
  generalize MT.col ⟨s, q, m, g, c, d⟩ k h = p2 at *
  obtain ⟨⟨or_, on, of_, oa, ob⟩, u_⟩ := p1
  obtain ⟨⟨ts, tq, tn, tf, ta, tb⟩, v_⟩ := p2
  simp only [mo_val, mt_val] at C1 C2
  dsimp only at W1 W2
  obtain ⟨l1, l2, l3⟩ := W1
  obtain ⟨j1, j2, j3⟩ := W2
  have gl1 : decide (u_ < lst21 h) = false := decide_eq_false (by omega)
  have gl2 : decide (v_ < lst21 h) = false := decide_eq_false (by omega)
  have gl3 : decide (3 < u_) = false := decide_eq_false (by omega)
  have gl4 : decide (3 < v_) = false := decide_eq_false (by omega)
  have hc1 : (e1 == 0) = false ∨ (e1 == 0) = true ∧ (u_ == 3) = false ∨ (e1 == 0) = true ∧ (u_ == 3) = true ∧ (r = or_ ∧ n = on ∧ f = of_ ∧ a = oa ∧ b = ob) := by
    by_cases x1 : e1 = 0
    · by_cases x2 : u_ = 3
      · have := l3 x1 x2
        simp only [MO.mk.injEq] at this
        exact Or.inr (Or.inr ⟨by simp [x1], by simp [x2], this.1.symm, this.2.1.symm, this.2.2.1.symm, this.2.2.2.1.symm, this.2.2.2.2.symm⟩)
      · exact Or.inr (Or.inl ⟨by simp [x1], by simp [x2]⟩)
    · exact Or.inl (by simp [x1])
  have hc2 : (e2 == 0) = false ∨ (e2 == 0) = true ∧ (v_ == 3) = false ∨ (e2 == 0) = true ∧ (v_ == 3) = true ∧ (s = ts ∧ q = tq ∧ m = tn ∧ g = tf ∧ c = ta ∧ d = tb) := by
    by_cases x1 : e2 = 0
    · by_cases x2 : v_ = 3
      · have := j3 x1 x2
        simp only [MT.mk.injEq] at this
        exact Or.inr (Or.inr ⟨by simp [x1], by simp [x2], this.1.symm, this.2.1.symm, this.2.2.1.symm, this.2.2.2.1.symm, this.2.2.2.2.1.symm, this.2.2.2.2.2.symm⟩)
      · exact Or.inr (Or.inl ⟨by simp [x1], by simp [x2]⟩)
    · exact Or.inl (by simp [x1])
  clear l1 l2 l3 j1 j2 j3
  rw [hl] at gl1 gl2
  clear hl
  go_enter Try.func8, Try.ntmps8
  go_wp2
  refine wp_genc ?_
  intro v0 hv0
  have XB : Below w.heap.size w v0 := by
    rw [hv0]
    (repeat' (first | (with_reducible exact Below.refl _ _) | (with_reducible assumption) | (with_reducible refine below_drewN _ ?_) | (with_reducible refine Below.drew ?_) | (with_reducible refine Below.setCell ?_ (by simp) _) | (with_reducible refine Below.alloc ?_ (by simp; try omega) _)))
  have Xo : v0.heap[w.heap.size]? = some (.cells #[.int .u64 r, .int .u64 n, .int .u64 f, .int .u64 a, .int .u64 b] 57 (0, 0)) := by
    rw [hv0]
    (repeat' (first | (with_reducible exact heap_alloc_new _ _) | (with_reducible exact blk_new (by first | (simp; done) | omega)) | (with_reducible refine blk_drew ?_) | (with_reducible refine blk_drewM ?_) | (with_reducible apply put5_0) | (with_reducible apply put5_1) | (with_reducible apply put5_2) | (with_reducible apply put5_3) | (with_reducible apply put5_4) | (with_reducible refine blk_else (by omega) ?_) | (with_reducible refine blk_old ?_)))
  have Xj : v0.heap[w.heap.size + 1]? = some (.cells #[.int .u64 s, .int .u64 q, .int .u64 m, .int .u64 g, .int .u64 c, .int .u64 d] 59 (0, 0)) := by
    rw [hv0]
    (repeat' (first | (with_reducible exact heap_alloc_new _ _) | (with_reducible exact blk_new (by first | (simp; done) | omega)) | (with_reducible refine blk_drew ?_) | (with_reducible refine blk_drewM ?_) | (with_reducible apply put6_0) | (with_reducible apply put6_1) | (with_reducible apply put6_2) | (with_reducible apply put6_3) | (with_reducible apply put6_4) | (with_reducible apply put6_5) | (with_reducible refine blk_else (by omega) ?_) | (with_reducible refine blk_old ?_)))
  have Xy : v0.heap[w.heap.size + 1 + 1]? = some (.cells #[.int .u64 y, .int .u64 k, .int .i64 h] 70 (0, 0)) := by
    rw [hv0]
    (repeat' (first | (with_reducible exact heap_alloc_new _ _) | (with_reducible exact blk_new (by first | (simp; done) | omega)) | (with_reducible refine blk_drew ?_) | (with_reducible refine blk_drewM ?_) | (with_reducible apply put3_0) | (with_reducible apply put3_1) | (with_reducible apply put3_2) | (with_reducible refine blk_else (by omega) ?_) | (with_reducible refine blk_old ?_)))
  obtain ⟨By, hBy⟩ : ∃ x, x = w.heap.size + 1 + 1 := ⟨_, rfl⟩
  rw [← hBy] at Xy
  try rw [← hBy]
  have ley : w.heap.size ≤ By := by omega
  obtain ⟨Bj, hBj⟩ : ∃ x, x = w.heap.size + 1 := ⟨_, rfl⟩
  rw [← hBj] at Xj
  try rw [← hBj]
  have njy : ¬ Bj = By := by omega
  have nyj : ¬ By = Bj := fun h => njy h.symm
  have lej : w.heap.size ≤ Bj := by omega
  obtain ⟨Bo, hBo⟩ : ∃ x, x = w.heap.size := ⟨_, rfl⟩
  rw [← hBo] at Xo
  try rw [← hBo]
  have noy : ¬ Bo = By := by omega
  have nyo : ¬ By = Bo := fun h => noy h.symm
  have noj : ¬ Bo = Bj := by omega
  have njo : ¬ Bj = Bo := fun h => noj h.symm
  have leo : w.heap.size ≤ Bo := by omega
  clear hBo hBj hBy
  clear hv0
  have Hy1 := Lib.hid Xy
  have Hj1 := Lib.hid Xj
  have Ho1 := Lib.hid Xo
  have HB1 := Lib.hid XB
  clear Xy Xj Xo XB
  obtain ⟨y0_, y1_, y2_, yf0_, yf1_, yf2_⟩ := at3 Hy1.out
  have yn_ := ne_blk Hy1.out
  have ym_ := Ne.symm (a := By) yn_
  have yl_ := lt_blk Hy1.out
  obtain ⟨j0_, j1_, j2_, j3_, j4_, j5_, jf0_, jf1_, jf2_, jf3_, jf4_, jf5_⟩ := at6 Hj1.out
  have jn_ := ne_blk Hj1.out
  have jm_ := Ne.symm (a := Bj) jn_
  have jl_ := lt_blk Hj1.out
  obtain ⟨o0_, o1_, o2_, o3_, o4_, of0_, of1_, of2_, of3_, of4_⟩ := at5 Ho1.out
  have on_ := ne_blk Ho1.out
  have om_ := Ne.symm (a := Bo) on_
  have ol_ := lt_blk Ho1.out
  go_quiet (fail)
  go_wp2_with fail
  refine cl_gen ?_
  intro v1 hv1
  have Xy : v1.heap[By]? = some (.cells #[.int .u64 y, .int .u64 k, .int .i64 h] 70 (0, 0)) := by
    rw [hv1]
    (repeat' (first | (with_reducible exact Hy1.out) | (with_reducible exact heap_alloc_new _ _) | (with_reducible exact blk_new (by first | (simp; done) | omega)) | (with_reducible refine blk_drew ?_) | (with_reducible refine blk_drewM ?_) | (with_reducible apply put3_0) | (with_reducible apply put3_1) | (with_reducible apply put3_2) | (with_reducible refine blk_else (by omega) ?_) | (with_reducible refine blk_old ?_)))
  have Xj : v1.heap[Bj]? = some (.cells #[.int .u64 s, .int .u64 q, .int .u64 m, .int .u64 g, .int .u64 c, .int .u64 d] 59 (0, 0)) := by
    rw [hv1]
    (repeat' (first | (with_reducible exact Hj1.out) | (with_reducible exact heap_alloc_new _ _) | (with_reducible exact blk_new (by first | (simp; done) | omega)) | (with_reducible refine blk_drew ?_) | (with_reducible refine blk_drewM ?_) | (with_reducible apply put6_0) | (with_reducible apply put6_1) | (with_reducible apply put6_2) | (with_reducible apply put6_3) | (with_reducible apply put6_4) | (with_reducible apply put6_5) | (with_reducible refine blk_else (by omega) ?_) | (with_reducible refine blk_old ?_)))
  have Xo : v1.heap[Bo]? = some (.cells #[.int .u64 r, .int .u64 n, .int .u64 f, .int .u64 a, .int .u64 b] 57 (0, 0)) := by
    rw [hv1]
    (repeat' (first | (with_reducible exact Ho1.out) | (with_reducible exact heap_alloc_new _ _) | (with_reducible exact blk_new (by first | (simp; done) | omega)) | (with_reducible refine blk_drew ?_) | (with_reducible refine blk_drewM ?_) | (with_reducible apply put5_0) | (with_reducible apply put5_1) | (with_reducible apply put5_2) | (with_reducible apply put5_3) | (with_reducible apply put5_4) | (with_reducible refine blk_else (by omega) ?_) | (with_reducible refine blk_old ?_)))
  have XB : Below w.heap.size w v1 := by
    rw [hv1]
    (repeat' (first | (with_reducible exact HB1.out) | (with_reducible exact Below.refl _ _) | (with_reducible refine below_drewN _ ?_) | (with_reducible refine Below.drew ?_) | (with_reducible refine Below.setCell ?_ (by first | (simp; done) | omega) _) | (with_reducible refine Below.alloc ?_ (by have := HB1.out.size; simp; omega) _)))
  clear y0_ y1_ y2_ yf0_ yf1_ yf2_ yn_ ym_ yl_ j0_ j1_ j2_ j3_ j4_ j5_ jf0_ jf1_ jf2_ jf3_ jf4_ jf5_ jn_ jm_ jl_ o0_ o1_ o2_ o3_ o4_ of0_ of1_ of2_ of3_ of4_ on_ om_ ol_
  clear hv1 Hy1 Hj1 Ho1 HB1
  refine (C1.out _).mono ?_
  rintro e w2 ⟨rfl, bb⟩
  have Hy2 := Lib.hid (blk_call bb Xy)
  have Hj2 := Lib.hid (blk_call bb Xj)
  have Ho2 := Lib.hid (blk_call bb Xo)
  have HB2 := Lib.hid (bel_onto XB bb XB.size)
  clear Xy Xj Xo XB bb
  obtain ⟨y0_, y1_, y2_, yf0_, yf1_, yf2_⟩ := at3 Hy2.out
  have yn_ := ne_blk Hy2.out
  have ym_ := Ne.symm (a := By) yn_
  have yl_ := lt_blk Hy2.out
  obtain ⟨j0_, j1_, j2_, j3_, j4_, j5_, jf0_, jf1_, jf2_, jf3_, jf4_, jf5_⟩ := at6 Hj2.out
  have jn_ := ne_blk Hj2.out
  have jm_ := Ne.symm (a := Bj) jn_
  have jl_ := lt_blk Hj2.out
  obtain ⟨o0_, o1_, o2_, o3_, o4_, of0_, of1_, of2_, of3_, of4_⟩ := at5 Ho2.out
  have on_ := ne_blk Ho2.out
  have om_ := Ne.symm (a := Bo) on_
  have ol_ := lt_blk Ho2.out
  go_wp2_with fail
  refine cl_gen ?_
  intro v2 hv2
  have Xy : v2.heap[By]? = some (.cells #[.int .u64 y, .int .u64 k, .int .i64 h] 70 (0, 0)) := by
    rw [hv2]
    (repeat' (first | (with_reducible exact Hy2.out) | (with_reducible exact heap_alloc_new _ _) | (with_reducible exact blk_new (by first | (simp; done) | omega)) | (with_reducible refine blk_drew ?_) | (with_reducible refine blk_drewM ?_) | (with_reducible apply put3_0) | (with_reducible apply put3_1) | (with_reducible apply put3_2) | (with_reducible refine blk_else (by omega) ?_) | (with_reducible refine blk_old ?_)))
  have Xj : v2.heap[Bj]? = some (.cells #[.int .u64 s, .int .u64 q, .int .u64 m, .int .u64 g, .int .u64 c, .int .u64 d] 59 (0, 0)) := by
    rw [hv2]
    (repeat' (first | (with_reducible exact Hj2.out) | (with_reducible exact heap_alloc_new _ _) | (with_reducible exact blk_new (by first | (simp; done) | omega)) | (with_reducible refine blk_drew ?_) | (with_reducible refine blk_drewM ?_) | (with_reducible apply put6_0) | (with_reducible apply put6_1) | (with_reducible apply put6_2) | (with_reducible apply put6_3) | (with_reducible apply put6_4) | (with_reducible apply put6_5) | (with_reducible refine blk_else (by omega) ?_) | (with_reducible refine blk_old ?_)))
  have Xo : v2.heap[Bo]? = some (.cells #[.int .u64 r, .int .u64 n, .int .u64 f, .int .u64 a, .int .u64 b] 57 (0, 0)) := by
    rw [hv2]
    (repeat' (first | (with_reducible exact Ho2.out) | (with_reducible exact heap_alloc_new _ _) | (with_reducible exact blk_new (by first | (simp; done) | omega)) | (with_reducible refine blk_drew ?_) | (with_reducible refine blk_drewM ?_) | (with_reducible apply put5_0) | (with_reducible apply put5_1) | (with_reducible apply put5_2) | (with_reducible apply put5_3) | (with_reducible apply put5_4) | (with_reducible refine blk_else (by omega) ?_) | (with_reducible refine blk_old ?_)))
  have XB : Below w.heap.size w v2 := by
    rw [hv2]
    (repeat' (first | (with_reducible exact HB2.out) | (with_reducible exact Below.refl _ _) | (with_reducible refine below_drewN _ ?_) | (with_reducible refine Below.drew ?_) | (with_reducible refine Below.setCell ?_ (by first | (simp; done) | omega) _) | (with_reducible refine Below.alloc ?_ (by have := HB2.out.size; simp; omega) _)))
  have Xp : v2.heap[w2.heap.size]? = some (.cells #[.int .u64 or_, .int .u64 on, .int .u64 of_, .int .u64 oa, .int .u64 ob] 61 (0, 0)) := by
    rw [hv2]
    (repeat' (first | (with_reducible exact heap_alloc_new _ _) | (with_reducible exact blk_new (by first | (simp; done) | omega)) | (with_reducible refine blk_drew ?_) | (with_reducible refine blk_drewM ?_) | (with_reducible apply put5_0) | (with_reducible apply put5_1) | (with_reducible apply put5_2) | (with_reducible apply put5_3) | (with_reducible apply put5_4) | (with_reducible refine blk_else (by omega) ?_) | (with_reducible refine blk_old ?_)))
  obtain ⟨Bp, hBp⟩ : ∃ x, x = w2.heap.size := ⟨_, rfl⟩
  rw [← hBp] at Xp
  try rw [← hBp]
  have npy : ¬ Bp = By := by have := lt_blk Hy2.out; omega
  have nyp : ¬ By = Bp := fun h => npy h.symm
  have npj : ¬ Bp = Bj := by have := lt_blk Hj2.out; omega
  have njp : ¬ Bj = Bp := fun h => npj h.symm
  have npo : ¬ Bp = Bo := by have := lt_blk Ho2.out; omega
  have nop : ¬ Bo = Bp := fun h => npo h.symm
  have lep : w.heap.size ≤ Bp := by have := HB2.out.size; omega
  clear hBp
  clear y0_ y1_ y2_ yf0_ yf1_ yf2_ yn_ ym_ yl_ j0_ j1_ j2_ j3_ j4_ j5_ jf0_ jf1_ jf2_ jf3_ jf4_ jf5_ jn_ jm_ jl_ o0_ o1_ o2_ o3_ o4_ of0_ of1_ of2_ of3_ of4_ on_ om_ ol_
  clear hv2 Hy2 Hj2 Ho2 HB2
  refine (C2.out _).mono ?_
  rintro e w3 ⟨rfl, bb⟩
  have Hy3 := Lib.hid (blk_call bb Xy)
  have Hj3 := Lib.hid (blk_call bb Xj)
  have Ho3 := Lib.hid (blk_call bb Xo)
  have Hp3 := Lib.hid (blk_call bb Xp)
  have HB3 := Lib.hid (bel_onto XB bb XB.size)
  clear Xy Xj Xo Xp XB bb
  obtain ⟨y0_, y1_, y2_, yf0_, yf1_, yf2_⟩ := at3 Hy3.out
  have yn_ := ne_blk Hy3.out
  have ym_ := Ne.symm (a := By) yn_
  have yl_ := lt_blk Hy3.out
  obtain ⟨j0_, j1_, j2_, j3_, j4_, j5_, jf0_, jf1_, jf2_, jf3_, jf4_, jf5_⟩ := at6 Hj3.out
  have jn_ := ne_blk Hj3.out
  have jm_ := Ne.symm (a := Bj) jn_
  have jl_ := lt_blk Hj3.out
  obtain ⟨o0_, o1_, o2_, o3_, o4_, of0_, of1_, of2_, of3_, of4_⟩ := at5 Ho3.out
  have on_ := ne_blk Ho3.out
  have om_ := Ne.symm (a := Bo) on_
  have ol_ := lt_blk Ho3.out
  obtain ⟨p0_, p1_, p2_, p3_, p4_, pf0_, pf1_, pf2_, pf3_, pf4_⟩ := at5 Hp3.out
  have pn_ := ne_blk Hp3.out
  have pm_ := Ne.symm (a := Bp) pn_
  have pl_ := lt_blk Hp3.out
  go_upto_region 4 with (fail)
  refine wp_genc ?_
  intro v3 hv3
  have Xy : v3.heap[By]? = some (.cells #[.int .u64 y, .int .u64 k, .int .i64 h] 70 (0, 0)) := by
    rw [hv3]
    (repeat' (first | (with_reducible exact Hy3.out) | (with_reducible exact heap_alloc_new _ _) | (with_reducible exact blk_new (by first | (simp; done) | omega)) | (with_reducible refine blk_drew ?_) | (with_reducible refine blk_drewM ?_) | (with_reducible apply put3_0) | (with_reducible apply put3_1) | (with_reducible apply put3_2) | (with_reducible refine blk_else (by omega) ?_) | (with_reducible refine blk_old ?_)))
  have Xj : v3.heap[Bj]? = some (.cells #[.int .u64 s, .int .u64 q, .int .u64 m, .int .u64 g, .int .u64 c, .int .u64 d] 59 (0, 0)) := by
    rw [hv3]
    (repeat' (first | (with_reducible exact Hj3.out) | (with_reducible exact heap_alloc_new _ _) | (with_reducible exact blk_new (by first | (simp; done) | omega)) | (with_reducible refine blk_drew ?_) | (with_reducible refine blk_drewM ?_) | (with_reducible apply put6_0) | (with_reducible apply put6_1) | (with_reducible apply put6_2) | (with_reducible apply put6_3) | (with_reducible apply put6_4) | (with_reducible apply put6_5) | (with_reducible refine blk_else (by omega) ?_) | (with_reducible refine blk_old ?_)))
  have Xo : v3.heap[Bo]? = some (.cells #[.int .u64 r, .int .u64 n, .int .u64 f, .int .u64 a, .int .u64 b] 57 (0, 0)) := by
    rw [hv3]
    (repeat' (first | (with_reducible exact Ho3.out) | (with_reducible exact heap_alloc_new _ _) | (with_reducible exact blk_new (by first | (simp; done) | omega)) | (with_reducible refine blk_drew ?_) | (with_reducible refine blk_drewM ?_) | (with_reducible apply put5_0) | (with_reducible apply put5_1) | (with_reducible apply put5_2) | (with_reducible apply put5_3) | (with_reducible apply put5_4) | (with_reducible refine blk_else (by omega) ?_) | (with_reducible refine blk_old ?_)))
  have Xp : v3.heap[Bp]? = some (.cells #[.int .u64 or_, .int .u64 on, .int .u64 of_, .int .u64 oa, .int .u64 ob] 61 (0, 0)) := by
    rw [hv3]
    (repeat' (first | (with_reducible exact Hp3.out) | (with_reducible exact heap_alloc_new _ _) | (with_reducible exact blk_new (by first | (simp; done) | omega)) | (with_reducible refine blk_drew ?_) | (with_reducible refine blk_drewM ?_) | (with_reducible apply put5_0) | (with_reducible apply put5_1) | (with_reducible apply put5_2) | (with_reducible apply put5_3) | (with_reducible apply put5_4) | (with_reducible refine blk_else (by omega) ?_) | (with_reducible refine blk_old ?_)))
  have XB : Below w.heap.size w v3 := by
    rw [hv3]
    (repeat' (first | (with_reducible exact HB3.out) | (with_reducible exact Below.refl _ _) | (with_reducible refine below_drewN _ ?_) | (with_reducible refine Below.drew ?_) | (with_reducible refine Below.setCell ?_ (by first | (simp; done) | omega) _) | (with_reducible refine Below.alloc ?_ (by have := HB3.out.size; simp; omega) _)))
  have Xe : v3.heap[w3.heap.size]? = some (.cells #[.int .u64 ts, .int .u64 tq, .int .u64 tn, .int .u64 tf, .int .u64 ta, .int .u64 tb] 65 (0, 0)) := by
    rw [hv3]
    (repeat' (first | (with_reducible exact heap_alloc_new _ _) | (with_reducible exact blk_new (by first | (simp; done) | omega)) | (with_reducible refine blk_drew ?_) | (with_reducible refine blk_drewM ?_) | (with_reducible apply put6_0) | (with_reducible apply put6_1) | (with_reducible apply put6_2) | (with_reducible apply put6_3) | (with_reducible apply put6_4) | (with_reducible apply put6_5) | (with_reducible refine blk_else (by omega) ?_) | (with_reducible refine blk_old ?_)))
  obtain ⟨Be, hBe⟩ : ∃ x, x = w3.heap.size := ⟨_, rfl⟩
  rw [← hBe] at Xe
  try rw [← hBe]
  have ney : ¬ Be = By := by have := lt_blk Hy3.out; omega
  have nye : ¬ By = Be := fun h => ney h.symm
  have nej : ¬ Be = Bj := by have := lt_blk Hj3.out; omega
  have nje : ¬ Bj = Be := fun h => nej h.symm
  have neo : ¬ Be = Bo := by have := lt_blk Ho3.out; omega
  have noe : ¬ Bo = Be := fun h => neo h.symm
  have nep : ¬ Be = Bp := by have := lt_blk Hp3.out; omega
  have npe : ¬ Bp = Be := fun h => nep h.symm
  have lee : w.heap.size ≤ Be := by have := HB3.out.size; omega
  clear hBe
  clear y0_ y1_ y2_ yf0_ yf1_ yf2_ yn_ ym_ yl_ j0_ j1_ j2_ j3_ j4_ j5_ jf0_ jf1_ jf2_ jf3_ jf4_ jf5_ jn_ jm_ jl_ o0_ o1_ o2_ o3_ o4_ of0_ of1_ of2_ of3_ of4_ on_ om_ ol_ p0_ p1_ p2_ p3_ p4_ pf0_ pf1_ pf2_ pf3_ pf4_ pn_ pm_ pl_
  clear hv3 Hy3 Hj3 Ho3 Hp3 HB3
  have Hy4 := Lib.hid Xy
  have Hj4 := Lib.hid Xj
  have Ho4 := Lib.hid Xo
  have Hp4 := Lib.hid Xp
  have He4 := Lib.hid Xe
  have HB4 := Lib.hid XB
  clear Xy Xj Xo Xp Xe XB
  obtain ⟨y0_, y1_, y2_, yf0_, yf1_, yf2_⟩ := at3 Hy4.out
  have yn_ := ne_blk Hy4.out
  have ym_ := Ne.symm (a := By) yn_
  have yl_ := lt_blk Hy4.out
  obtain ⟨j0_, j1_, j2_, j3_, j4_, j5_, jf0_, jf1_, jf2_, jf3_, jf4_, jf5_⟩ := at6 Hj4.out
  have jn_ := ne_blk Hj4.out
  have jm_ := Ne.symm (a := Bj) jn_
  have jl_ := lt_blk Hj4.out
  obtain ⟨o0_, o1_, o2_, o3_, o4_, of0_, of1_, of2_, of3_, of4_⟩ := at5 Ho4.out
  have on_ := ne_blk Ho4.out
  have om_ := Ne.symm (a := Bo) on_
  have ol_ := lt_blk Ho4.out
  obtain ⟨p0_, p1_, p2_, p3_, p4_, pf0_, pf1_, pf2_, pf3_, pf4_⟩ := at5 Hp4.out
  have pn_ := ne_blk Hp4.out
  have pm_ := Ne.symm (a := Bp) pn_
  have pl_ := lt_blk Hp4.out
  obtain ⟨e0_, e1_, e2_, e3_, e4_, e5_, ef0_, ef1_, ef2_, ef3_, ef4_, ef5_⟩ := at6 He4.out
  have en_ := ne_blk He4.out
  have em_ := Ne.symm (a := Be) en_
  have el_ := lt_blk He4.out
  rcases hc1 with gc1 | ⟨gc1, gc3⟩ | ⟨gc1, gc3, rfl, rfl, rfl, rfl, rfl⟩
  · go_wp2_with fail
    refine cl_gen ?_
    intro v4 hv4
    have Xy : v4.heap[By]? = some (.cells #[.int .u64 y, .int .u64 k, .int .i64 h] 70 (0, 0)) := by
      rw [hv4]
      (repeat' (first | (with_reducible exact Hy4.out) | (with_reducible exact heap_alloc_new _ _) | (with_reducible exact blk_new (by first | (simp; done) | omega)) | (with_reducible refine blk_drew ?_) | (with_reducible refine blk_drewM ?_) | (with_reducible apply put3_0) | (with_reducible apply put3_1) | (with_reducible apply put3_2) | (with_reducible refine blk_else (by omega) ?_) | (with_reducible refine blk_old ?_)))
    have Xj : v4.heap[Bj]? = some (.cells #[.int .u64 s, .int .u64 q, .int .u64 m, .int .u64 g, .int .u64 c, .int .u64 d] 59 (0, 0)) := by
      rw [hv4]
      (repeat' (first | (with_reducible exact Hj4.out) | (with_reducible exact heap_alloc_new _ _) | (with_reducible exact blk_new (by first | (simp; done) | omega)) | (with_reducible refine blk_drew ?_) | (with_reducible refine blk_drewM ?_) | (with_reducible apply put6_0) | (with_reducible apply put6_1) | (with_reducible apply put6_2) | (with_reducible apply put6_3) | (with_reducible apply put6_4) | (with_reducible apply put6_5) | (with_reducible refine blk_else (by omega) ?_) | (with_reducible refine blk_old ?_)))
    have Xo : v4.heap[Bo]? = some (.cells #[.int .u64 r, .int .u64 n, .int .u64 f, .int .u64 a, .int .u64 b] 57 (0, 0)) := by
      rw [hv4]
      (repeat' (first | (with_reducible exact Ho4.out) | (with_reducible exact heap_alloc_new _ _) | (with_reducible exact blk_new (by first | (simp; done) | omega)) | (with_reducible refine blk_drew ?_) | (with_reducible refine blk_drewM ?_) | (with_reducible apply put5_0) | (with_reducible apply put5_1) | (with_reducible apply put5_2) | (with_reducible apply put5_3) | (with_reducible apply put5_4) | (with_reducible refine blk_else (by omega) ?_) | (with_reducible refine blk_old ?_)))
    have Xp : v4.heap[Bp]? = some (.cells #[.int .u64 or_, .int .u64 on, .int .u64 of_, .int .u64 oa, .int .u64 ob] 61 (0, 0)) := by
      rw [hv4]
      (repeat' (first | (with_reducible exact Hp4.out) | (with_reducible exact heap_alloc_new _ _) | (with_reducible exact blk_new (by first | (simp; done) | omega)) | (with_reducible refine blk_drew ?_) | (with_reducible refine blk_drewM ?_) | (with_reducible apply put5_0) | (with_reducible apply put5_1) | (with_reducible apply put5_2) | (with_reducible apply put5_3) | (with_reducible apply put5_4) | (with_reducible refine blk_else (by omega) ?_) | (with_reducible refine blk_old ?_)))
    have Xe : v4.heap[Be]? = some (.cells #[.int .u64 ts, .int .u64 tq, .int .u64 tn, .int .u64 tf, .int .u64 ta, .int .u64 tb] 65 (0, 0)) := by
      rw [hv4]
      (repeat' (first | (with_reducible exact He4.out) | (with_reducible exact heap_alloc_new _ _) | (with_reducible exact blk_new (by first | (simp; done) | omega)) | (with_reducible refine blk_drew ?_) | (with_reducible refine blk_drewM ?_) | (with_reducible apply put6_0) | (with_reducible apply put6_1) | (with_reducible apply put6_2) | (with_reducible apply put6_3) | (with_reducible apply put6_4) | (with_reducible apply put6_5) | (with_reducible refine blk_else (by omega) ?_) | (with_reducible refine blk_old ?_)))
    have XB : Below w.heap.size w v4 := by
      rw [hv4]
      (repeat' (first | (with_reducible exact HB4.out) | (with_reducible exact Below.refl _ _) | (with_reducible refine below_drewN _ ?_) | (with_reducible refine Below.drew ?_) | (with_reducible refine Below.setCell ?_ (by first | (simp; done) | omega) _) | (with_reducible refine Below.alloc ?_ (by have := HB4.out.size; simp; omega) _)))
    clear y0_ y1_ y2_ yf0_ yf1_ yf2_ yn_ ym_ yl_ j0_ j1_ j2_ j3_ j4_ j5_ jf0_ jf1_ jf2_ jf3_ jf4_ jf5_ jn_ jm_ jl_ o0_ o1_ o2_ o3_ o4_ of0_ of1_ of2_ of3_ of4_ on_ om_ ol_ p0_ p1_ p2_ p3_ p4_ pf0_ pf1_ pf2_ pf3_ pf4_ pn_ pm_ pl_ e0_ e1_ e2_ e3_ e4_ e5_ ef0_ ef1_ ef2_ ef3_ ef4_ ef5_ en_ em_ el_
    clear hv4 Hy4 Hj4 Ho4 Hp4 He4 HB4
    refine (M1.out _).mono ?_
    rintro e w5 ⟨rfl, bb⟩
    have Hy5 := Lib.hid (blk_call bb Xy)
    have Hj5 := Lib.hid (blk_call bb Xj)
    have Ho5 := Lib.hid (blk_call bb Xo)
    have Hp5 := Lib.hid (blk_call bb Xp)
    have He5 := Lib.hid (blk_call bb Xe)
    have HB5 := Lib.hid (bel_onto XB bb XB.size)
    clear Xy Xj Xo Xp Xe XB bb
    obtain ⟨y0_, y1_, y2_, yf0_, yf1_, yf2_⟩ := at3 Hy5.out
    have yn_ := ne_blk Hy5.out
    have ym_ := Ne.symm (a := By) yn_
    have yl_ := lt_blk Hy5.out
    obtain ⟨j0_, j1_, j2_, j3_, j4_, j5_, jf0_, jf1_, jf2_, jf3_, jf4_, jf5_⟩ := at6 Hj5.out
    have jn_ := ne_blk Hj5.out
    have jm_ := Ne.symm (a := Bj) jn_
    have jl_ := lt_blk Hj5.out
    obtain ⟨o0_, o1_, o2_, o3_, o4_, of0_, of1_, of2_, of3_, of4_⟩ := at5 Ho5.out
    have on_ := ne_blk Ho5.out
    have om_ := Ne.symm (a := Bo) on_
    have ol_ := lt_blk Ho5.out
    obtain ⟨p0_, p1_, p2_, p3_, p4_, pf0_, pf1_, pf2_, pf3_, pf4_⟩ := at5 Hp5.out
    have pn_ := ne_blk Hp5.out
    have pm_ := Ne.symm (a := Bp) pn_
    have pl_ := lt_blk Hp5.out
    obtain ⟨e0_, e1_, e2_, e3_, e4_, e5_, ef0_, ef1_, ef2_, ef3_, ef4_, ef5_⟩ := at6 He5.out
    have en_ := ne_blk He5.out
    have em_ := Ne.symm (a := Be) en_
    have el_ := lt_blk He5.out
    rcases hc2 with gc2 | ⟨gc2, gc4⟩ | ⟨gc2, gc4, rfl, rfl, rfl, rfl, rfl, rfl⟩
    · go_wp2_with fail
      refine cl_gen ?_
      intro v5 hv5
      have Xy : v5.heap[By]? = some (.cells #[.int .u64 y, .int .u64 k, .int .i64 h] 70 (0, 0)) := by
        rw [hv5]
        (repeat' (first | (with_reducible exact Hy5.out) | (with_reducible exact heap_alloc_new _ _) | (with_reducible exact blk_new (by first | (simp; done) | omega)) | (with_reducible refine blk_drew ?_) | (with_reducible refine blk_drewM ?_) | (with_reducible apply put3_0) | (with_reducible apply put3_1) | (with_reducible apply put3_2) | (with_reducible refine blk_else (by omega) ?_) | (with_reducible refine blk_old ?_)))
      have Xj : v5.heap[Bj]? = some (.cells #[.int .u64 s, .int .u64 q, .int .u64 m, .int .u64 g, .int .u64 c, .int .u64 d] 59 (0, 0)) := by
        rw [hv5]
        (repeat' (first | (with_reducible exact Hj5.out) | (with_reducible exact heap_alloc_new _ _) | (with_reducible exact blk_new (by first | (simp; done) | omega)) | (with_reducible refine blk_drew ?_) | (with_reducible refine blk_drewM ?_) | (with_reducible apply put6_0) | (with_reducible apply put6_1) | (with_reducible apply put6_2) | (with_reducible apply put6_3) | (with_reducible apply put6_4) | (with_reducible apply put6_5) | (with_reducible refine blk_else (by omega) ?_) | (with_reducible refine blk_old ?_)))
      have Xo : v5.heap[Bo]? = some (.cells #[.int .u64 r, .int .u64 n, .int .u64 f, .int .u64 a, .int .u64 b] 57 (0, 0)) := by
        rw [hv5]
        (repeat' (first | (with_reducible exact Ho5.out) | (with_reducible exact heap_alloc_new _ _) | (with_reducible exact blk_new (by first | (simp; done) | omega)) | (with_reducible refine blk_drew ?_) | (with_reducible refine blk_drewM ?_) | (with_reducible apply put5_0) | (with_reducible apply put5_1) | (with_reducible apply put5_2) | (with_reducible apply put5_3) | (with_reducible apply put5_4) | (with_reducible refine blk_else (by omega) ?_) | (with_reducible refine blk_old ?_)))
      have Xp : v5.heap[Bp]? = some (.cells #[.int .u64 or_, .int .u64 on, .int .u64 of_, .int .u64 oa, .int .u64 ob] 61 (0, 0)) := by
        rw [hv5]
        (repeat' (first | (with_reducible exact Hp5.out) | (with_reducible exact heap_alloc_new _ _) | (with_reducible exact blk_new (by first | (simp; done) | omega)) | (with_reducible refine blk_drew ?_) | (with_reducible refine blk_drewM ?_) | (with_reducible apply put5_0) | (with_reducible apply put5_1) | (with_reducible apply put5_2) | (with_reducible apply put5_3) | (with_reducible apply put5_4) | (with_reducible refine blk_else (by omega) ?_) | (with_reducible refine blk_old ?_)))
      have Xe : v5.heap[Be]? = some (.cells #[.int .u64 ts, .int .u64 tq, .int .u64 tn, .int .u64 tf, .int .u64 ta, .int .u64 tb] 65 (0, 0)) := by
        rw [hv5]
        (repeat' (first | (with_reducible exact He5.out) | (with_reducible exact heap_alloc_new _ _) | (with_reducible exact blk_new (by first | (simp; done) | omega)) | (with_reducible refine blk_drew ?_) | (with_reducible refine blk_drewM ?_) | (with_reducible apply put6_0) | (with_reducible apply put6_1) | (with_reducible apply put6_2) | (with_reducible apply put6_3) | (with_reducible apply put6_4) | (with_reducible apply put6_5) | (with_reducible refine blk_else (by omega) ?_) | (with_reducible refine blk_old ?_)))
      have XB : Below w.heap.size w v5 := by
        rw [hv5]
        (repeat' (first | (with_reducible exact HB5.out) | (with_reducible exact Below.refl _ _) | (with_reducible refine below_drewN _ ?_) | (with_reducible refine Below.drew ?_) | (with_reducible refine Below.setCell ?_ (by first | (simp; done) | omega) _) | (with_reducible refine Below.alloc ?_ (by have := HB5.out.size; simp; omega) _)))
      clear y0_ y1_ y2_ yf0_ yf1_ yf2_ yn_ ym_ yl_ j0_ j1_ j2_ j3_ j4_ j5_ jf0_ jf1_ jf2_ jf3_ jf4_ jf5_ jn_ jm_ jl_ o0_ o1_ o2_ o3_ o4_ of0_ of1_ of2_ of3_ of4_ on_ om_ ol_ p0_ p1_ p2_ p3_ p4_ pf0_ pf1_ pf2_ pf3_ pf4_ pn_ pm_ pl_ e0_ e1_ e2_ e3_ e4_ e5_ ef0_ ef1_ ef2_ ef3_ ef4_ ef5_ en_ em_ el_
      clear hv5 Hy5 Hj5 Ho5 Hp5 He5 HB5
      refine (M2.out _).mono ?_
      rintro e w6 ⟨rfl, bb⟩
      have Hy6 := Lib.hid (blk_call bb Xy)
      have Hj6 := Lib.hid (blk_call bb Xj)
      have Ho6 := Lib.hid (blk_call bb Xo)
      have Hp6 := Lib.hid (blk_call bb Xp)
      have He6 := Lib.hid (blk_call bb Xe)
      have HB6 := Lib.hid (bel_onto XB bb XB.size)
      clear Xy Xj Xo Xp Xe XB bb
      obtain ⟨y0_, y1_, y2_, yf0_, yf1_, yf2_⟩ := at3 Hy6.out
      have yn_ := ne_blk Hy6.out
      have ym_ := Ne.symm (a := By) yn_
      have yl_ := lt_blk Hy6.out
      obtain ⟨j0_, j1_, j2_, j3_, j4_, j5_, jf0_, jf1_, jf2_, jf3_, jf4_, jf5_⟩ := at6 Hj6.out
      have jn_ := ne_blk Hj6.out
      have jm_ := Ne.symm (a := Bj) jn_
      have jl_ := lt_blk Hj6.out
      obtain ⟨o0_, o1_, o2_, o3_, o4_, of0_, of1_, of2_, of3_, of4_⟩ := at5 Ho6.out
      have on_ := ne_blk Ho6.out
      have om_ := Ne.symm (a := Bo) on_
      have ol_ := lt_blk Ho6.out
      obtain ⟨p0_, p1_, p2_, p3_, p4_, pf0_, pf1_, pf2_, pf3_, pf4_⟩ := at5 Hp6.out
      have pn_ := ne_blk Hp6.out
      have pm_ := Ne.symm (a := Bp) pn_
      have pl_ := lt_blk Hp6.out
      obtain ⟨e0_, e1_, e2_, e3_, e4_, e5_, ef0_, ef1_, ef2_, ef3_, ef4_, ef5_⟩ := at6 He6.out
      have en_ := ne_blk He6.out
      have em_ := Ne.symm (a := Be) en_
      have el_ := lt_blk He6.out
      go_wp2_with fail
      refine cl_gen ?_
      intro v6 hv6
      have Xy : v6.heap[By]? = some (.cells #[.int .u64 y, .int .u64 k, .int .i64 h] 70 (0, 0)) := by
        rw [hv6]
        (repeat' (first | (with_reducible exact Hy6.out) | (with_reducible exact heap_alloc_new _ _) | (with_reducible exact blk_new (by first | (simp; done) | omega)) | (with_reducible refine blk_drew ?_) | (with_reducible refine blk_drewM ?_) | (with_reducible apply put3_0) | (with_reducible apply put3_1) | (with_reducible apply put3_2) | (with_reducible refine blk_else (by omega) ?_) | (with_reducible refine blk_old ?_)))
      have Xj : v6.heap[Bj]? = some (.cells #[.int .u64 s, .int .u64 q, .int .u64 m, .int .u64 g, .int .u64 c, .int .u64 d] 59 (0, 0)) := by
        rw [hv6]
        (repeat' (first | (with_reducible exact Hj6.out) | (with_reducible exact heap_alloc_new _ _) | (with_reducible exact blk_new (by first | (simp; done) | omega)) | (with_reducible refine blk_drew ?_) | (with_reducible refine blk_drewM ?_) | (with_reducible apply put6_0) | (with_reducible apply put6_1) | (with_reducible apply put6_2) | (with_reducible apply put6_3) | (with_reducible apply put6_4) | (with_reducible apply put6_5) | (with_reducible refine blk_else (by omega) ?_) | (with_reducible refine blk_old ?_)))
      have Xo : v6.heap[Bo]? = some (.cells #[.int .u64 r, .int .u64 n, .int .u64 f, .int .u64 a, .int .u64 b] 57 (0, 0)) := by
        rw [hv6]
        (repeat' (first | (with_reducible exact Ho6.out) | (with_reducible exact heap_alloc_new _ _) | (with_reducible exact blk_new (by first | (simp; done) | omega)) | (with_reducible refine blk_drew ?_) | (with_reducible refine blk_drewM ?_) | (with_reducible apply put5_0) | (with_reducible apply put5_1) | (with_reducible apply put5_2) | (with_reducible apply put5_3) | (with_reducible apply put5_4) | (with_reducible refine blk_else (by omega) ?_) | (with_reducible refine blk_old ?_)))
      have Xp : v6.heap[Bp]? = some (.cells #[.int .u64 or_, .int .u64 on, .int .u64 of_, .int .u64 oa, .int .u64 ob] 61 (0, 0)) := by
        rw [hv6]
        (repeat' (first | (with_reducible exact Hp6.out) | (with_reducible exact heap_alloc_new _ _) | (with_reducible exact blk_new (by first | (simp; done) | omega)) | (with_reducible refine blk_drew ?_) | (with_reducible refine blk_drewM ?_) | (with_reducible apply put5_0) | (with_reducible apply put5_1) | (with_reducible apply put5_2) | (with_reducible apply put5_3) | (with_reducible apply put5_4) | (with_reducible refine blk_else (by omega) ?_) | (with_reducible refine blk_old ?_)))
      have Xe : v6.heap[Be]? = some (.cells #[.int .u64 ts, .int .u64 tq, .int .u64 tn, .int .u64 tf, .int .u64 ta, .int .u64 tb] 65 (0, 0)) := by
        rw [hv6]
        (repeat' (first | (with_reducible exact He6.out) | (with_reducible exact heap_alloc_new _ _) | (with_reducible exact blk_new (by first | (simp; done) | omega)) | (with_reducible refine blk_drew ?_) | (with_reducible refine blk_drewM ?_) | (with_reducible apply put6_0) | (with_reducible apply put6_1) | (with_reducible apply put6_2) | (with_reducible apply put6_3) | (with_reducible apply put6_4) | (with_reducible apply put6_5) | (with_reducible refine blk_else (by omega) ?_) | (with_reducible refine blk_old ?_)))
      have XB : Below w.heap.size w v6 := by
        rw [hv6]
        (repeat' (first | (with_reducible exact HB6.out) | (with_reducible exact Below.refl _ _) | (with_reducible refine below_drewN _ ?_) | (with_reducible refine Below.drew ?_) | (with_reducible refine Below.setCell ?_ (by first | (simp; done) | omega) _) | (with_reducible refine Below.alloc ?_ (by have := HB6.out.size; simp; omega) _)))
      clear y0_ y1_ y2_ yf0_ yf1_ yf2_ yn_ ym_ yl_ j0_ j1_ j2_ j3_ j4_ j5_ jf0_ jf1_ jf2_ jf3_ jf4_ jf5_ jn_ jm_ jl_ o0_ o1_ o2_ o3_ o4_ of0_ of1_ of2_ of3_ of4_ on_ om_ ol_ p0_ p1_ p2_ p3_ p4_ pf0_ pf1_ pf2_ pf3_ pf4_ pn_ pm_ pl_ e0_ e1_ e2_ e3_ e4_ e5_ ef0_ ef1_ ef2_ ef3_ ef4_ ef5_ en_ em_ el_
      clear hv6 Hy6 Hj6 Ho6 Hp6 He6 HB6
      refine (LV.out _).mono ?_
      rintro e w7 ⟨rfl, bb⟩
      have Hy7 := Lib.hid (blk_call bb Xy)
      have Hj7 := Lib.hid (blk_call bb Xj)
      have Ho7 := Lib.hid (blk_call bb Xo)
      have Hp7 := Lib.hid (blk_call bb Xp)
      have He7 := Lib.hid (blk_call bb Xe)
      have HB7 := Lib.hid (bel_onto XB bb XB.size)
      clear Xy Xj Xo Xp Xe XB bb
      obtain ⟨y0_, y1_, y2_, yf0_, yf1_, yf2_⟩ := at3 Hy7.out
      have yn_ := ne_blk Hy7.out
      have ym_ := Ne.symm (a := By) yn_
      have yl_ := lt_blk Hy7.out
      obtain ⟨j0_, j1_, j2_, j3_, j4_, j5_, jf0_, jf1_, jf2_, jf3_, jf4_, jf5_⟩ := at6 Hj7.out
      have jn_ := ne_blk Hj7.out
      have jm_ := Ne.symm (a := Bj) jn_
      have jl_ := lt_blk Hj7.out
      obtain ⟨o0_, o1_, o2_, o3_, o4_, of0_, of1_, of2_, of3_, of4_⟩ := at5 Ho7.out
      have on_ := ne_blk Ho7.out
      have om_ := Ne.symm (a := Bo) on_
      have ol_ := lt_blk Ho7.out
      obtain ⟨p0_, p1_, p2_, p3_, p4_, pf0_, pf1_, pf2_, pf3_, pf4_⟩ := at5 Hp7.out
      have pn_ := ne_blk Hp7.out
      have pm_ := Ne.symm (a := Bp) pn_
      have pl_ := lt_blk Hp7.out
      obtain ⟨e0_, e1_, e2_, e3_, e4_, e5_, ef0_, ef1_, ef2_, ef3_, ef4_, ef5_⟩ := at6 He7.out
      have en_ := ne_blk He7.out
      have em_ := Ne.symm (a := Be) en_
      have el_ := lt_blk He7.out
      clear y0_ y1_ y2_ yf0_ yf1_ yf2_ yn_ ym_ yl_ j0_ j1_ j2_ j3_ j4_ j5_ jf0_ jf1_ jf2_ jf3_ jf4_ jf5_ jn_ jm_ jl_ o0_ o1_ o2_ o3_ o4_ of0_ of1_ of2_ of3_ of4_ on_ om_ ol_ p0_ p1_ p2_ p3_ p4_ pf0_ pf1_ pf2_ pf3_ pf4_ pn_ pm_ pl_ e0_ e1_ e2_ e3_ e4_ e5_ ef0_ ef1_ ef2_ ef3_ ef4_ ef5_ en_ em_ el_
      go_wp2
      go_ret
      exact ⟨rfl, HB7.out⟩
    · go_wp2_with fail
      refine cl_gen ?_
      intro v5 hv5
      have Xy : v5.heap[By]? = some (.cells #[.int .u64 y, .int .u64 k, .int .i64 h] 70 (0, 0)) := by
        rw [hv5]
        (repeat' (first | (with_reducible exact Hy5.out) | (with_reducible exact heap_alloc_new _ _) | (with_reducible exact blk_new (by first | (simp; done) | omega)) | (with_reducible refine blk_drew ?_) | (with_reducible refine blk_drewM ?_) | (with_reducible apply put3_0) | (with_reducible apply put3_1) | (with_reducible apply put3_2) | (with_reducible refine blk_else (by omega) ?_) | (with_reducible refine blk_old ?_)))
      have Xj : v5.heap[Bj]? = some (.cells #[.int .u64 s, .int .u64 q, .int .u64 m, .int .u64 g, .int .u64 c, .int .u64 d] 59 (0, 0)) := by
        rw [hv5]
        (repeat' (first | (with_reducible exact Hj5.out) | (with_reducible exact heap_alloc_new _ _) | (with_reducible exact blk_new (by first | (simp; done) | omega)) | (with_reducible refine blk_drew ?_) | (with_reducible refine blk_drewM ?_) | (with_reducible apply put6_0) | (with_reducible apply put6_1) | (with_reducible apply put6_2) | (with_reducible apply put6_3) | (with_reducible apply put6_4) | (with_reducible apply put6_5) | (with_reducible refine blk_else (by omega) ?_) | (with_reducible refine blk_old ?_)))
      have Xo : v5.heap[Bo]? = some (.cells #[.int .u64 r, .int .u64 n, .int .u64 f, .int .u64 a, .int .u64 b] 57 (0, 0)) := by
        rw [hv5]
        (repeat' (first | (with_reducible exact Ho5.out) | (with_reducible exact heap_alloc_new _ _) | (with_reducible exact blk_new (by first | (simp; done) | omega)) | (with_reducible refine blk_drew ?_) | (with_reducible refine blk_drewM ?_) | (with_reducible apply put5_0) | (with_reducible apply put5_1) | (with_reducible apply put5_2) | (with_reducible apply put5_3) | (with_reducible apply put5_4) | (with_reducible refine blk_else (by omega) ?_) | (with_reducible refine blk_old ?_)))
      have Xp : v5.heap[Bp]? = some (.cells #[.int .u64 or_, .int .u64 on, .int .u64 of_, .int .u64 oa, .int .u64 ob] 61 (0, 0)) := by
        rw [hv5]
        (repeat' (first | (with_reducible exact Hp5.out) | (with_reducible exact heap_alloc_new _ _) | (with_reducible exact blk_new (by first | (simp; done) | omega)) | (with_reducible refine blk_drew ?_) | (with_reducible refine blk_drewM ?_) | (with_reducible apply put5_0) | (with_reducible apply put5_1) | (with_reducible apply put5_2) | (with_reducible apply put5_3) | (with_reducible apply put5_4) | (with_reducible refine blk_else (by omega) ?_) | (with_reducible refine blk_old ?_)))
      have Xe : v5.heap[Be]? = some (.cells #[.int .u64 ts, .int .u64 tq, .int .u64 tn, .int .u64 tf, .int .u64 ta, .int .u64 tb] 65 (0, 0)) := by
        rw [hv5]
        (repeat' (first | (with_reducible exact He5.out) | (with_reducible exact heap_alloc_new _ _) | (with_reducible exact blk_new (by first | (simp; done) | omega)) | (with_reducible refine blk_drew ?_) | (with_reducible refine blk_drewM ?_) | (with_reducible apply put6_0) | (with_reducible apply put6_1) | (with_reducible apply put6_2) | (with_reducible apply put6_3) | (with_reducible apply put6_4) | (with_reducible apply put6_5) | (with_reducible refine blk_else (by omega) ?_) | (with_reducible refine blk_old ?_)))
      have XB : Below w.heap.size w v5 := by
        rw [hv5]
        (repeat' (first | (with_reducible exact HB5.out) | (with_reducible exact Below.refl _ _) | (with_reducible refine below_drewN _ ?_) | (with_reducible refine Below.drew ?_) | (with_reducible refine Below.setCell ?_ (by first | (simp; done) | omega) _) | (with_reducible refine Below.alloc ?_ (by have := HB5.out.size; simp; omega) _)))
      clear y0_ y1_ y2_ yf0_ yf1_ yf2_ yn_ ym_ yl_ j0_ j1_ j2_ j3_ j4_ j5_ jf0_ jf1_ jf2_ jf3_ jf4_ jf5_ jn_ jm_ jl_ o0_ o1_ o2_ o3_ o4_ of0_ of1_ of2_ of3_ of4_ on_ om_ ol_ p0_ p1_ p2_ p3_ p4_ pf0_ pf1_ pf2_ pf3_ pf4_ pn_ pm_ pl_ e0_ e1_ e2_ e3_ e4_ e5_ ef0_ ef1_ ef2_ ef3_ ef4_ ef5_ en_ em_ el_
      clear hv5 Hy5 Hj5 Ho5 Hp5 He5 HB5
      refine (M2.out _).mono ?_
      rintro e w6 ⟨rfl, bb⟩
      have Hy6 := Lib.hid (blk_call bb Xy)
      have Hj6 := Lib.hid (blk_call bb Xj)
      have Ho6 := Lib.hid (blk_call bb Xo)
      have Hp6 := Lib.hid (blk_call bb Xp)
      have He6 := Lib.hid (blk_call bb Xe)
      have HB6 := Lib.hid (bel_onto XB bb XB.size)
      clear Xy Xj Xo Xp Xe XB bb
      obtain ⟨y0_, y1_, y2_, yf0_, yf1_, yf2_⟩ := at3 Hy6.out
      have yn_ := ne_blk Hy6.out
      have ym_ := Ne.symm (a := By) yn_
      have yl_ := lt_blk Hy6.out
      obtain ⟨j0_, j1_, j2_, j3_, j4_, j5_, jf0_, jf1_, jf2_, jf3_, jf4_, jf5_⟩ := at6 Hj6.out
      have jn_ := ne_blk Hj6.out
      have jm_ := Ne.symm (a := Bj) jn_
      have jl_ := lt_blk Hj6.out
      obtain ⟨o0_, o1_, o2_, o3_, o4_, of0_, of1_, of2_, of3_, of4_⟩ := at5 Ho6.out
      have on_ := ne_blk Ho6.out
      have om_ := Ne.symm (a := Bo) on_
      have ol_ := lt_blk Ho6.out
      obtain ⟨p0_, p1_, p2_, p3_, p4_, pf0_, pf1_, pf2_, pf3_, pf4_⟩ := at5 Hp6.out
      have pn_ := ne_blk Hp6.out
      have pm_ := Ne.symm (a := Bp) pn_
      have pl_ := lt_blk Hp6.out
      obtain ⟨e0_, e1_, e2_, e3_, e4_, e5_, ef0_, ef1_, ef2_, ef3_, ef4_, ef5_⟩ := at6 He6.out
      have en_ := ne_blk He6.out
      have em_ := Ne.symm (a := Be) en_
      have el_ := lt_blk He6.out
      go_wp2_with fail
      refine cl_gen ?_
      intro v6 hv6
      have Xy : v6.heap[By]? = some (.cells #[.int .u64 y, .int .u64 k, .int .i64 h] 70 (0, 0)) := by
        rw [hv6]
        (repeat' (first | (with_reducible exact Hy6.out) | (with_reducible exact heap_alloc_new _ _) | (with_reducible exact blk_new (by first | (simp; done) | omega)) | (with_reducible refine blk_drew ?_) | (with_reducible refine blk_drewM ?_) | (with_reducible apply put3_0) | (with_reducible apply put3_1) | (with_reducible apply put3_2) | (with_reducible refine blk_else (by omega) ?_) | (with_reducible refine blk_old ?_)))
      have Xj : v6.heap[Bj]? = some (.cells #[.int .u64 s, .int .u64 q, .int .u64 m, .int .u64 g, .int .u64 c, .int .u64 d] 59 (0, 0)) := by
        rw [hv6]
        (repeat' (first | (with_reducible exact Hj6.out) | (with_reducible exact heap_alloc_new _ _) | (with_reducible exact blk_new (by first | (simp; done) | omega)) | (with_reducible refine blk_drew ?_) | (with_reducible refine blk_drewM ?_) | (with_reducible apply put6_0) | (with_reducible apply put6_1) | (with_reducible apply put6_2) | (with_reducible apply put6_3) | (with_reducible apply put6_4) | (with_reducible apply put6_5) | (with_reducible refine blk_else (by omega) ?_) | (with_reducible refine blk_old ?_)))
      have Xo : v6.heap[Bo]? = some (.cells #[.int .u64 r, .int .u64 n, .int .u64 f, .int .u64 a, .int .u64 b] 57 (0, 0)) := by
        rw [hv6]
        (repeat' (first | (with_reducible exact Ho6.out) | (with_reducible exact heap_alloc_new _ _) | (with_reducible exact blk_new (by first | (simp; done) | omega)) | (with_reducible refine blk_drew ?_) | (with_reducible refine blk_drewM ?_) | (with_reducible apply put5_0) | (with_reducible apply put5_1) | (with_reducible apply put5_2) | (with_reducible apply put5_3) | (with_reducible apply put5_4) | (with_reducible refine blk_else (by omega) ?_) | (with_reducible refine blk_old ?_)))
      have Xp : v6.heap[Bp]? = some (.cells #[.int .u64 or_, .int .u64 on, .int .u64 of_, .int .u64 oa, .int .u64 ob] 61 (0, 0)) := by
        rw [hv6]
        (repeat' (first | (with_reducible exact Hp6.out) | (with_reducible exact heap_alloc_new _ _) | (with_reducible exact blk_new (by first | (simp; done) | omega)) | (with_reducible refine blk_drew ?_) | (with_reducible refine blk_drewM ?_) | (with_reducible apply put5_0) | (with_reducible apply put5_1) | (with_reducible apply put5_2) | (with_reducible apply put5_3) | (with_reducible apply put5_4) | (with_reducible refine blk_else (by omega) ?_) | (with_reducible refine blk_old ?_)))
      have Xe : v6.heap[Be]? = some (.cells #[.int .u64 ts, .int .u64 tq, .int .u64 tn, .int .u64 tf, .int .u64 ta, .int .u64 tb] 65 (0, 0)) := by
        rw [hv6]
        (repeat' (first | (with_reducible exact He6.out) | (with_reducible exact heap_alloc_new _ _) | (with_reducible exact blk_new (by first | (simp; done) | omega)) | (with_reducible refine blk_drew ?_) | (with_reducible refine blk_drewM ?_) | (with_reducible apply put6_0) | (with_reducible apply put6_1) | (with_reducible apply put6_2) | (with_reducible apply put6_3) | (with_reducible apply put6_4) | (with_reducible apply put6_5) | (with_reducible refine blk_else (by omega) ?_) | (with_reducible refine blk_old ?_)))
      have XB : Below w.heap.size w v6 := by
        rw [hv6]
        (repeat' (first | (with_reducible exact HB6.out) | (with_reducible exact Below.refl _ _) | (with_reducible refine below_drewN _ ?_) | (with_reducible refine Below.drew ?_) | (with_reducible refine Below.setCell ?_ (by first | (simp; done) | omega) _) | (with_reducible refine Below.alloc ?_ (by have := HB6.out.size; simp; omega) _)))
      clear y0_ y1_ y2_ yf0_ yf1_ yf2_ yn_ ym_ yl_ j0_ j1_ j2_ j3_ j4_ j5_ jf0_ jf1_ jf2_ jf3_ jf4_ jf5_ jn_ jm_ jl_ o0_ o1_ o2_ o3_ o4_ of0_ of1_ of2_ of3_ of4_ on_ om_ ol_ p0_ p1_ p2_ p3_ p4_ pf0_ pf1_ pf2_ pf3_ pf4_ pn_ pm_ pl_ e0_ e1_ e2_ e3_ e4_ e5_ ef0_ ef1_ ef2_ ef3_ ef4_ ef5_ en_ em_ el_
      clear hv6 Hy6 Hj6 Ho6 Hp6 He6 HB6
      refine (LV.out _).mono ?_
      rintro e w7 ⟨rfl, bb⟩
      have Hy7 := Lib.hid (blk_call bb Xy)
      have Hj7 := Lib.hid (blk_call bb Xj)
      have Ho7 := Lib.hid (blk_call bb Xo)
      have Hp7 := Lib.hid (blk_call bb Xp)
      have He7 := Lib.hid (blk_call bb Xe)
      have HB7 := Lib.hid (bel_onto XB bb XB.size)
      clear Xy Xj Xo Xp Xe XB bb
      obtain ⟨y0_, y1_, y2_, yf0_, yf1_, yf2_⟩ := at3 Hy7.out
      have yn_ := ne_blk Hy7.out
      have ym_ := Ne.symm (a := By) yn_
      have yl_ := lt_blk Hy7.out
      obtain ⟨j0_, j1_, j2_, j3_, j4_, j5_, jf0_, jf1_, jf2_, jf3_, jf4_, jf5_⟩ := at6 Hj7.out
      have jn_ := ne_blk Hj7.out
      have jm_ := Ne.symm (a := Bj) jn_
      have jl_ := lt_blk Hj7.out
      obtain ⟨o0_, o1_, o2_, o3_, o4_, of0_, of1_, of2_, of3_, of4_⟩ := at5 Ho7.out
      have on_ := ne_blk Ho7.out
      have om_ := Ne.symm (a := Bo) on_
      have ol_ := lt_blk Ho7.out
      obtain ⟨p0_, p1_, p2_, p3_, p4_, pf0_, pf1_, pf2_, pf3_, pf4_⟩ := at5 Hp7.out
      have pn_ := ne_blk Hp7.out
      have pm_ := Ne.symm (a := Bp) pn_
      have pl_ := lt_blk Hp7.out
      obtain ⟨e0_, e1_, e2_, e3_, e4_, e5_, ef0_, ef1_, ef2_, ef3_, ef4_, ef5_⟩ := at6 He7.out
      have en_ := ne_blk He7.out
      have em_ := Ne.symm (a := Be) en_
      have el_ := lt_blk He7.out
      clear y0_ y1_ y2_ yf0_ yf1_ yf2_ yn_ ym_ yl_ j0_ j1_ j2_ j3_ j4_ j5_ jf0_ jf1_ jf2_ jf3_ jf4_ jf5_ jn_ jm_ jl_ o0_ o1_ o2_ o3_ o4_ of0_ of1_ of2_ of3_ of4_ on_ om_ ol_ p0_ p1_ p2_ p3_ p4_ pf0_ pf1_ pf2_ pf3_ pf4_ pn_ pm_ pl_ e0_ e1_ e2_ e3_ e4_ e5_ ef0_ ef1_ ef2_ ef3_ ef4_ ef5_ en_ em_ el_
      go_wp2
      go_ret
      exact ⟨rfl, HB7.out⟩
    · go_wp2_with fail
      refine cl_gen ?_
      intro v5 hv5
      have Xy : v5.heap[By]? = some (.cells #[.int .u64 y, .int .u64 k, .int .i64 h] 70 (0, 0)) := by
        rw [hv5]
        (repeat' (first | (with_reducible exact Hy5.out) | (with_reducible exact heap_alloc_new _ _) | (with_reducible exact blk_new (by first | (simp; done) | omega)) | (with_reducible refine blk_drew ?_) | (with_reducible refine blk_drewM ?_) | (with_reducible apply put3_0) | (with_reducible apply put3_1) | (with_reducible apply put3_2) | (with_reducible refine blk_else (by omega) ?_) | (with_reducible refine blk_old ?_)))
      have Xj : v5.heap[Bj]? = some (.cells #[.int .u64 s, .int .u64 q, .int .u64 m, .int .u64 g, .int .u64 c, .int .u64 d] 59 (0, 0)) := by
        rw [hv5]
        (repeat' (first | (with_reducible exact Hj5.out) | (with_reducible exact heap_alloc_new _ _) | (with_reducible exact blk_new (by first | (simp; done) | omega)) | (with_reducible refine blk_drew ?_) | (with_reducible refine blk_drewM ?_) | (with_reducible apply put6_0) | (with_reducible apply put6_1) | (with_reducible apply put6_2) | (with_reducible apply put6_3) | (with_reducible apply put6_4) | (with_reducible apply put6_5) | (with_reducible refine blk_else (by omega) ?_) | (with_reducible refine blk_old ?_)))
      have Xo : v5.heap[Bo]? = some (.cells #[.int .u64 r, .int .u64 n, .int .u64 f, .int .u64 a, .int .u64 b] 57 (0, 0)) := by
        rw [hv5]
        (repeat' (first | (with_reducible exact Ho5.out) | (with_reducible exact heap_alloc_new _ _) | (with_reducible exact blk_new (by first | (simp; done) | omega)) | (with_reducible refine blk_drew ?_) | (with_reducible refine blk_drewM ?_) | (with_reducible apply put5_0) | (with_reducible apply put5_1) | (with_reducible apply put5_2) | (with_reducible apply put5_3) | (with_reducible apply put5_4) | (with_reducible refine blk_else (by omega) ?_) | (with_reducible refine blk_old ?_)))
      have Xp : v5.heap[Bp]? = some (.cells #[.int .u64 or_, .int .u64 on, .int .u64 of_, .int .u64 oa, .int .u64 ob] 61 (0, 0)) := by
        rw [hv5]
        (repeat' (first | (with_reducible exact Hp5.out) | (with_reducible exact heap_alloc_new _ _) | (with_reducible exact blk_new (by first | (simp; done) | omega)) | (with_reducible refine blk_drew ?_) | (with_reducible refine blk_drewM ?_) | (with_reducible apply put5_0) | (with_reducible apply put5_1) | (with_reducible apply put5_2) | (with_reducible apply put5_3) | (with_reducible apply put5_4) | (with_reducible refine blk_else (by omega) ?_) | (with_reducible refine blk_old ?_)))
      have Xe : v5.heap[Be]? = some (.cells #[.int .u64 s, .int .u64 q, .int .u64 m, .int .u64 g, .int .u64 c, .int .u64 d] 65 (0, 0)) := by
        rw [hv5]
        (repeat' (first | (with_reducible exact He5.out) | (with_reducible exact heap_alloc_new _ _) | (with_reducible exact blk_new (by first | (simp; done) | omega)) | (with_reducible refine blk_drew ?_) | (with_reducible refine blk_drewM ?_) | (with_reducible apply put6_0) | (with_reducible apply put6_1) | (with_reducible apply put6_2) | (with_reducible apply put6_3) | (with_reducible apply put6_4) | (with_reducible apply put6_5) | (with_reducible refine blk_else (by omega) ?_) | (with_reducible refine blk_old ?_)))
      have XB : Below w.heap.size w v5 := by
        rw [hv5]
        (repeat' (first | (with_reducible exact HB5.out) | (with_reducible exact Below.refl _ _) | (with_reducible refine below_drewN _ ?_) | (with_reducible refine Below.drew ?_) | (with_reducible refine Below.setCell ?_ (by first | (simp; done) | omega) _) | (with_reducible refine Below.alloc ?_ (by have := HB5.out.size; simp; omega) _)))
      clear y0_ y1_ y2_ yf0_ yf1_ yf2_ yn_ ym_ yl_ j0_ j1_ j2_ j3_ j4_ j5_ jf0_ jf1_ jf2_ jf3_ jf4_ jf5_ jn_ jm_ jl_ o0_ o1_ o2_ o3_ o4_ of0_ of1_ of2_ of3_ of4_ on_ om_ ol_ p0_ p1_ p2_ p3_ p4_ pf0_ pf1_ pf2_ pf3_ pf4_ pn_ pm_ pl_ e0_ e1_ e2_ e3_ e4_ e5_ ef0_ ef1_ ef2_ ef3_ ef4_ ef5_ en_ em_ el_
      clear hv5 Hy5 Hj5 Ho5 Hp5 He5 HB5
      refine (M2.out _).mono ?_
      rintro e w6 ⟨rfl, bb⟩
      have Hy6 := Lib.hid (blk_call bb Xy)
      have Hj6 := Lib.hid (blk_call bb Xj)
      have Ho6 := Lib.hid (blk_call bb Xo)
      have Hp6 := Lib.hid (blk_call bb Xp)
      have He6 := Lib.hid (blk_call bb Xe)
      have HB6 := Lib.hid (bel_onto XB bb XB.size)
      clear Xy Xj Xo Xp Xe XB bb
      obtain ⟨y0_, y1_, y2_, yf0_, yf1_, yf2_⟩ := at3 Hy6.out
      have yn_ := ne_blk Hy6.out
      have ym_ := Ne.symm (a := By) yn_
      have yl_ := lt_blk Hy6.out
      obtain ⟨j0_, j1_, j2_, j3_, j4_, j5_, jf0_, jf1_, jf2_, jf3_, jf4_, jf5_⟩ := at6 Hj6.out
      have jn_ := ne_blk Hj6.out
      have jm_ := Ne.symm (a := Bj) jn_
      have jl_ := lt_blk Hj6.out
      obtain ⟨o0_, o1_, o2_, o3_, o4_, of0_, of1_, of2_, of3_, of4_⟩ := at5 Ho6.out
      have on_ := ne_blk Ho6.out
      have om_ := Ne.symm (a := Bo) on_
      have ol_ := lt_blk Ho6.out
      obtain ⟨p0_, p1_, p2_, p3_, p4_, pf0_, pf1_, pf2_, pf3_, pf4_⟩ := at5 Hp6.out
      have pn_ := ne_blk Hp6.out
      have pm_ := Ne.symm (a := Bp) pn_
      have pl_ := lt_blk Hp6.out
      obtain ⟨e0_, e1_, e2_, e3_, e4_, e5_, ef0_, ef1_, ef2_, ef3_, ef4_, ef5_⟩ := at6 He6.out
      have en_ := ne_blk He6.out
      have em_ := Ne.symm (a := Be) en_
      have el_ := lt_blk He6.out
      go_wp2_with fail
      refine cl_gen ?_
      intro v6 hv6
      have Xy : v6.heap[By]? = some (.cells #[.int .u64 y, .int .u64 k, .int .i64 h] 70 (0, 0)) := by
        rw [hv6]
        (repeat' (first | (with_reducible exact Hy6.out) | (with_reducible exact heap_alloc_new _ _) | (with_reducible exact blk_new (by first | (simp; done) | omega)) | (with_reducible refine blk_drew ?_) | (with_reducible refine blk_drewM ?_) | (with_reducible apply put3_0) | (with_reducible apply put3_1) | (with_reducible apply put3_2) | (with_reducible refine blk_else (by omega) ?_) | (with_reducible refine blk_old ?_)))
      have Xj : v6.heap[Bj]? = some (.cells #[.int .u64 s, .int .u64 q, .int .u64 m, .int .u64 g, .int .u64 c, .int .u64 d] 59 (0, 0)) := by
        rw [hv6]
        (repeat' (first | (with_reducible exact Hj6.out) | (with_reducible exact heap_alloc_new _ _) | (with_reducible exact blk_new (by first | (simp; done) | omega)) | (with_reducible refine blk_drew ?_) | (with_reducible refine blk_drewM ?_) | (with_reducible apply put6_0) | (with_reducible apply put6_1) | (with_reducible apply put6_2) | (with_reducible apply put6_3) | (with_reducible apply put6_4) | (with_reducible apply put6_5) | (with_reducible refine blk_else (by omega) ?_) | (with_reducible refine blk_old ?_)))
      have Xo : v6.heap[Bo]? = some (.cells #[.int .u64 r, .int .u64 n, .int .u64 f, .int .u64 a, .int .u64 b] 57 (0, 0)) := by
        rw [hv6]
        (repeat' (first | (with_reducible exact Ho6.out) | (with_reducible exact heap_alloc_new _ _) | (with_reducible exact blk_new (by first | (simp; done) | omega)) | (with_reducible refine blk_drew ?_) | (with_reducible refine blk_drewM ?_) | (with_reducible apply put5_0) | (with_reducible apply put5_1) | (with_reducible apply put5_2) | (with_reducible apply put5_3) | (with_reducible apply put5_4) | (with_reducible refine blk_else (by omega) ?_) | (with_reducible refine blk_old ?_)))
      have Xp : v6.heap[Bp]? = some (.cells #[.int .u64 or_, .int .u64 on, .int .u64 of_, .int .u64 oa, .int .u64 ob] 61 (0, 0)) := by
        rw [hv6]
        (repeat' (first | (with_reducible exact Hp6.out) | (with_reducible exact heap_alloc_new _ _) | (with_reducible exact blk_new (by first | (simp; done) | omega)) | (with_reducible refine blk_drew ?_) | (with_reducible refine blk_drewM ?_) | (with_reducible apply put5_0) | (with_reducible apply put5_1) | (with_reducible apply put5_2) | (with_reducible apply put5_3) | (with_reducible apply put5_4) | (with_reducible refine blk_else (by omega) ?_) | (with_reducible refine blk_old ?_)))
      have Xe : v6.heap[Be]? = some (.cells #[.int .u64 s, .int .u64 q, .int .u64 m, .int .u64 g, .int .u64 c, .int .u64 d] 65 (0, 0)) := by
        rw [hv6]
        (repeat' (first | (with_reducible exact He6.out) | (with_reducible exact heap_alloc_new _ _) | (with_reducible exact blk_new (by first | (simp; done) | omega)) | (with_reducible refine blk_drew ?_) | (with_reducible refine blk_drewM ?_) | (with_reducible apply put6_0) | (with_reducible apply put6_1) | (with_reducible apply put6_2) | (with_reducible apply put6_3) | (with_reducible apply put6_4) | (with_reducible apply put6_5) | (with_reducible refine blk_else (by omega) ?_) | (with_reducible refine blk_old ?_)))
      have XB : Below w.heap.size w v6 := by
        rw [hv6]
        (repeat' (first | (with_reducible exact HB6.out) | (with_reducible exact Below.refl _ _) | (with_reducible refine below_drewN _ ?_) | (with_reducible refine Below.drew ?_) | (with_reducible refine Below.setCell ?_ (by first | (simp; done) | omega) _) | (with_reducible refine Below.alloc ?_ (by have := HB6.out.size; simp; omega) _)))
      clear y0_ y1_ y2_ yf0_ yf1_ yf2_ yn_ ym_ yl_ j0_ j1_ j2_ j3_ j4_ j5_ jf0_ jf1_ jf2_ jf3_ jf4_ jf5_ jn_ jm_ jl_ o0_ o1_ o2_ o3_ o4_ of0_ of1_ of2_ of3_ of4_ on_ om_ ol_ p0_ p1_ p2_ p3_ p4_ pf0_ pf1_ pf2_ pf3_ pf4_ pn_ pm_ pl_ e0_ e1_ e2_ e3_ e4_ e5_ ef0_ ef1_ ef2_ ef3_ ef4_ ef5_ en_ em_ el_
      clear hv6 Hy6 Hj6 Ho6 Hp6 He6 HB6
      refine (LV.out _).mono ?_
      rintro e w7 ⟨rfl, bb⟩
      have Hy7 := Lib.hid (blk_call bb Xy)
      have Hj7 := Lib.hid (blk_call bb Xj)
      have Ho7 := Lib.hid (blk_call bb Xo)
      have Hp7 := Lib.hid (blk_call bb Xp)
      have He7 := Lib.hid (blk_call bb Xe)
      have HB7 := Lib.hid (bel_onto XB bb XB.size)
      clear Xy Xj Xo Xp Xe XB bb
      obtain ⟨y0_, y1_, y2_, yf0_, yf1_, yf2_⟩ := at3 Hy7.out
      have yn_ := ne_blk Hy7.out
      have ym_ := Ne.symm (a := By) yn_
      have yl_ := lt_blk Hy7.out
      obtain ⟨j0_, j1_, j2_, j3_, j4_, j5_, jf0_, jf1_, jf2_, jf3_, jf4_, jf5_⟩ := at6 Hj7.out
      have jn_ := ne_blk Hj7.out
      have jm_ := Ne.symm (a := Bj) jn_
      have jl_ := lt_blk Hj7.out
      obtain ⟨o0_, o1_, o2_, o3_, o4_, of0_, of1_, of2_, of3_, of4_⟩ := at5 Ho7.out
      have on_ := ne_blk Ho7.out
      have om_ := Ne.symm (a := Bo) on_
      have ol_ := lt_blk Ho7.out
      obtain ⟨p0_, p1_, p2_, p3_, p4_, pf0_, pf1_, pf2_, pf3_, pf4_⟩ := at5 Hp7.out
      have pn_ := ne_blk Hp7.out
      have pm_ := Ne.symm (a := Bp) pn_
      have pl_ := lt_blk Hp7.out
      obtain ⟨e0_, e1_, e2_, e3_, e4_, e5_, ef0_, ef1_, ef2_, ef3_, ef4_, ef5_⟩ := at6 He7.out
      have en_ := ne_blk He7.out
      have em_ := Ne.symm (a := Be) en_
      have el_ := lt_blk He7.out
      clear y0_ y1_ y2_ yf0_ yf1_ yf2_ yn_ ym_ yl_ j0_ j1_ j2_ j3_ j4_ j5_ jf0_ jf1_ jf2_ jf3_ jf4_ jf5_ jn_ jm_ jl_ o0_ o1_ o2_ o3_ o4_ of0_ of1_ of2_ of3_ of4_ on_ om_ ol_ p0_ p1_ p2_ p3_ p4_ pf0_ pf1_ pf2_ pf3_ pf4_ pn_ pm_ pl_ e0_ e1_ e2_ e3_ e4_ e5_ ef0_ ef1_ ef2_ ef3_ ef4_ ef5_ en_ em_ el_
      go_wp2
      go_ret
      exact ⟨rfl, HB7.out⟩
  · go_wp2_with fail
    refine cl_gen ?_
    intro v4 hv4
    have Xy : v4.heap[By]? = some (.cells #[.int .u64 y, .int .u64 k, .int .i64 h] 70 (0, 0)) := by
      rw [hv4]
      (repeat' (first | (with_reducible exact Hy4.out) | (with_reducible exact heap_alloc_new _ _) | (with_reducible exact blk_new (by first | (simp; done) | omega)) | (with_reducible refine blk_drew ?_) | (with_reducible refine blk_drewM ?_) | (with_reducible apply put3_0) | (with_reducible apply put3_1) | (with_reducible apply put3_2) | (with_reducible refine blk_else (by omega) ?_) | (with_reducible refine blk_old ?_)))
    have Xj : v4.heap[Bj]? = some (.cells #[.int .u64 s, .int .u64 q, .int .u64 m, .int .u64 g, .int .u64 c, .int .u64 d] 59 (0, 0)) := by
      rw [hv4]
      (repeat' (first | (with_reducible exact Hj4.out) | (with_reducible exact heap_alloc_new _ _) | (with_reducible exact blk_new (by first | (simp; done) | omega)) | (with_reducible refine blk_drew ?_) | (with_reducible refine blk_drewM ?_) | (with_reducible apply put6_0) | (with_reducible apply put6_1) | (with_reducible apply put6_2) | (with_reducible apply put6_3) | (with_reducible apply put6_4) | (with_reducible apply put6_5) | (with_reducible refine blk_else (by omega) ?_) | (with_reducible refine blk_old ?_)))
    have Xo : v4.heap[Bo]? = some (.cells #[.int .u64 r, .int .u64 n, .int .u64 f, .int .u64 a, .int .u64 b] 57 (0, 0)) := by
      rw [hv4]
      (repeat' (first | (with_reducible exact Ho4.out) | (with_reducible exact heap_alloc_new _ _) | (with_reducible exact blk_new (by first | (simp; done) | omega)) | (with_reducible refine blk_drew ?_) | (with_reducible refine blk_drewM ?_) | (with_reducible apply put5_0) | (with_reducible apply put5_1) | (with_reducible apply put5_2) | (with_reducible apply put5_3) | (with_reducible apply put5_4) | (with_reducible refine blk_else (by omega) ?_) | (with_reducible refine blk_old ?_)))
    have Xp : v4.heap[Bp]? = some (.cells #[.int .u64 or_, .int .u64 on, .int .u64 of_, .int .u64 oa, .int .u64 ob] 61 (0, 0)) := by
      rw [hv4]
      (repeat' (first | (with_reducible exact Hp4.out) | (with_reducible exact heap_alloc_new _ _) | (with_reducible exact blk_new (by first | (simp; done) | omega)) | (with_reducible refine blk_drew ?_) | (with_reducible refine blk_drewM ?_) | (with_reducible apply put5_0) | (with_reducible apply put5_1) | (with_reducible apply put5_2) | (with_reducible apply put5_3) | (with_reducible apply put5_4) | (with_reducible refine blk_else (by omega) ?_) | (with_reducible refine blk_old ?_)))
    have Xe : v4.heap[Be]? = some (.cells #[.int .u64 ts, .int .u64 tq, .int .u64 tn, .int .u64 tf, .int .u64 ta, .int .u64 tb] 65 (0, 0)) := by
      rw [hv4]
      (repeat' (first | (with_reducible exact He4.out) | (with_reducible exact heap_alloc_new _ _) | (with_reducible exact blk_new (by first | (simp; done) | omega)) | (with_reducible refine blk_drew ?_) | (with_reducible refine blk_drewM ?_) | (with_reducible apply put6_0) | (with_reducible apply put6_1) | (with_reducible apply put6_2) | (with_reducible apply put6_3) | (with_reducible apply put6_4) | (with_reducible apply put6_5) | (with_reducible refine blk_else (by omega) ?_) | (with_reducible refine blk_old ?_)))
    have XB : Below w.heap.size w v4 := by
      rw [hv4]
      (repeat' (first | (with_reducible exact HB4.out) | (with_reducible exact Below.refl _ _) | (with_reducible refine below_drewN _ ?_) | (with_reducible refine Below.drew ?_) | (with_reducible refine Below.setCell ?_ (by first | (simp; done) | omega) _) | (with_reducible refine Below.alloc ?_ (by have := HB4.out.size; simp; omega) _)))
    clear y0_ y1_ y2_ yf0_ yf1_ yf2_ yn_ ym_ yl_ j0_ j1_ j2_ j3_ j4_ j5_ jf0_ jf1_ jf2_ jf3_ jf4_ jf5_ jn_ jm_ jl_ o0_ o1_ o2_ o3_ o4_ of0_ of1_ of2_ of3_ of4_ on_ om_ ol_ p0_ p1_ p2_ p3_ p4_ pf0_ pf1_ pf2_ pf3_ pf4_ pn_ pm_ pl_ e0_ e1_ e2_ e3_ e4_ e5_ ef0_ ef1_ ef2_ ef3_ ef4_ ef5_ en_ em_ el_
    clear hv4 Hy4 Hj4 Ho4 Hp4 He4 HB4
    refine (M1.out _).mono ?_
    rintro e w5 ⟨rfl, bb⟩
    have Hy5 := Lib.hid (blk_call bb Xy)
    have Hj5 := Lib.hid (blk_call bb Xj)
    have Ho5 := Lib.hid (blk_call bb Xo)
    have Hp5 := Lib.hid (blk_call bb Xp)
    have He5 := Lib.hid (blk_call bb Xe)
    have HB5 := Lib.hid (bel_onto XB bb XB.size)
    clear Xy Xj Xo Xp Xe XB bb
    obtain ⟨y0_, y1_, y2_, yf0_, yf1_, yf2_⟩ := at3 Hy5.out
    have yn_ := ne_blk Hy5.out
    have ym_ := Ne.symm (a := By) yn_
    have yl_ := lt_blk Hy5.out
    obtain ⟨j0_, j1_, j2_, j3_, j4_, j5_, jf0_, jf1_, jf2_, jf3_, jf4_, jf5_⟩ := at6 Hj5.out
    have jn_ := ne_blk Hj5.out
    have jm_ := Ne.symm (a := Bj) jn_
    have jl_ := lt_blk Hj5.out
    obtain ⟨o0_, o1_, o2_, o3_, o4_, of0_, of1_, of2_, of3_, of4_⟩ := at5 Ho5.out
    have on_ := ne_blk Ho5.out
    have om_ := Ne.symm (a := Bo) on_
    have ol_ := lt_blk Ho5.out
    obtain ⟨p0_, p1_, p2_, p3_, p4_, pf0_, pf1_, pf2_, pf3_, pf4_⟩ := at5 Hp5.out
    have pn_ := ne_blk Hp5.out
    have pm_ := Ne.symm (a := Bp) pn_
    have pl_ := lt_blk Hp5.out
    obtain ⟨e0_, e1_, e2_, e3_, e4_, e5_, ef0_, ef1_, ef2_, ef3_, ef4_, ef5_⟩ := at6 He5.out
    have en_ := ne_blk He5.out
    have em_ := Ne.symm (a := Be) en_
    have el_ := lt_blk He5.out
    rcases hc2 with gc2 | ⟨gc2, gc4⟩ | ⟨gc2, gc4, rfl, rfl, rfl, rfl, rfl, rfl⟩
    · go_wp2_with fail
      refine cl_gen ?_
      intro v5 hv5
      have Xy : v5.heap[By]? = some (.cells #[.int .u64 y, .int .u64 k, .int .i64 h] 70 (0, 0)) := by
        rw [hv5]
        (repeat' (first | (with_reducible exact Hy5.out) | (with_reducible exact heap_alloc_new _ _) | (with_reducible exact blk_new (by first | (simp; done) | omega)) | (with_reducible refine blk_drew ?_) | (with_reducible refine blk_drewM ?_) | (with_reducible apply put3_0) | (with_reducible apply put3_1) | (with_reducible apply put3_2) | (with_reducible refine blk_else (by omega) ?_) | (with_reducible refine blk_old ?_)))
      have Xj : v5.heap[Bj]? = some (.cells #[.int .u64 s, .int .u64 q, .int .u64 m, .int .u64 g, .int .u64 c, .int .u64 d] 59 (0, 0)) := by
        rw [hv5]
        (repeat' (first | (with_reducible exact Hj5.out) | (with_reducible exact heap_alloc_new _ _) | (with_reducible exact blk_new (by first | (simp; done) | omega)) | (with_reducible refine blk_drew ?_) | (with_reducible refine blk_drewM ?_) | (with_reducible apply put6_0) | (with_reducible apply put6_1) | (with_reducible apply put6_2) | (with_reducible apply put6_3) | (with_reducible apply put6_4) | (with_reducible apply put6_5) | (with_reducible refine blk_else (by omega) ?_) | (with_reducible refine blk_old ?_)))
      have Xo : v5.heap[Bo]? = some (.cells #[.int .u64 r, .int .u64 n, .int .u64 f, .int .u64 a, .int .u64 b] 57 (0, 0)) := by
        rw [hv5]
        (repeat' (first | (with_reducible exact Ho5.out) | (with_reducible exact heap_alloc_new _ _) | (with_reducible exact blk_new (by first | (simp; done) | omega)) | (with_reducible refine blk_drew ?_) | (with_reducible refine blk_drewM ?_) | (with_reducible apply put5_0) | (with_reducible apply put5_1) | (with_reducible apply put5_2) | (with_reducible apply put5_3) | (with_reducible apply put5_4) | (with_reducible refine blk_else (by omega) ?_) | (with_reducible refine blk_old ?_)))
      have Xp : v5.heap[Bp]? = some (.cells #[.int .u64 or_, .int .u64 on, .int .u64 of_, .int .u64 oa, .int .u64 ob] 61 (0, 0)) := by
        rw [hv5]
        (repeat' (first | (with_reducible exact Hp5.out) | (with_reducible exact heap_alloc_new _ _) | (with_reducible exact blk_new (by first | (simp; done) | omega)) | (with_reducible refine blk_drew ?_) | (with_reducible refine blk_drewM ?_) | (with_reducible apply put5_0) | (with_reducible apply put5_1) | (with_reducible apply put5_2) | (with_reducible apply put5_3) | (with_reducible apply put5_4) | (with_reducible refine blk_else (by omega) ?_) | (with_reducible refine blk_old ?_)))
      have Xe : v5.heap[Be]? = some (.cells #[.int .u64 ts, .int .u64 tq, .int .u64 tn, .int .u64 tf, .int .u64 ta, .int .u64 tb] 65 (0, 0)) := by
        rw [hv5]
        (repeat' (first | (with_reducible exact He5.out) | (with_reducible exact heap_alloc_new _ _) | (with_reducible exact blk_new (by first | (simp; done) | omega)) | (with_reducible refine blk_drew ?_) | (with_reducible refine blk_drewM ?_) | (with_reducible apply put6_0) | (with_reducible apply put6_1) | (with_reducible apply put6_2) | (with_reducible apply put6_3) | (with_reducible apply put6_4) | (with_reducible apply put6_5) | (with_reducible refine blk_else (by omega) ?_) | (with_reducible refine blk_old ?_)))
      have XB : Below w.heap.size w v5 := by
        rw [hv5]
        (repeat' (first | (with_reducible exact HB5.out) | (with_reducible exact Below.refl _ _) | (with_reducible refine below_drewN _ ?_) | (with_reducible refine Below.drew ?_) | (with_reducible refine Below.setCell ?_ (by first | (simp; done) | omega) _) | (with_reducible refine Below.alloc ?_ (by have := HB5.out.size; simp; omega) _)))
      clear y0_ y1_ y2_ yf0_ yf1_ yf2_ yn_ ym_ yl_ j0_ j1_ j2_ j3_ j4_ j5_ jf0_ jf1_ jf2_ jf3_ jf4_ jf5_ jn_ jm_ jl_ o0_ o1_ o2_ o3_ o4_ of0_ of1_ of2_ of3_ of4_ on_ om_ ol_ p0_ p1_ p2_ p3_ p4_ pf0_ pf1_ pf2_ pf3_ pf4_ pn_ pm_ pl_ e0_ e1_ e2_ e3_ e4_ e5_ ef0_ ef1_ ef2_ ef3_ ef4_ ef5_ en_ em_ el_
      clear hv5 Hy5 Hj5 Ho5 Hp5 He5 HB5
      refine (M2.out _).mono ?_
      rintro e w6 ⟨rfl, bb⟩
      have Hy6 := Lib.hid (blk_call bb Xy)
      have Hj6 := Lib.hid (blk_call bb Xj)
      have Ho6 := Lib.hid (blk_call bb Xo)
      have Hp6 := Lib.hid (blk_call bb Xp)
      have He6 := Lib.hid (blk_call bb Xe)
      have HB6 := Lib.hid (bel_onto XB bb XB.size)
      clear Xy Xj Xo Xp Xe XB bb
      obtain ⟨y0_, y1_, y2_, yf0_, yf1_, yf2_⟩ := at3 Hy6.out
      have yn_ := ne_blk Hy6.out
      have ym_ := Ne.symm (a := By) yn_
      have yl_ := lt_blk Hy6.out
      obtain ⟨j0_, j1_, j2_, j3_, j4_, j5_, jf0_, jf1_, jf2_, jf3_, jf4_, jf5_⟩ := at6 Hj6.out
      have jn_ := ne_blk Hj6.out
      have jm_ := Ne.symm (a := Bj) jn_
      have jl_ := lt_blk Hj6.out
      obtain ⟨o0_, o1_, o2_, o3_, o4_, of0_, of1_, of2_, of3_, of4_⟩ := at5 Ho6.out
      have on_ := ne_blk Ho6.out
      have om_ := Ne.symm (a := Bo) on_
      have ol_ := lt_blk Ho6.out
      obtain ⟨p0_, p1_, p2_, p3_, p4_, pf0_, pf1_, pf2_, pf3_, pf4_⟩ := at5 Hp6.out
      have pn_ := ne_blk Hp6.out
      have pm_ := Ne.symm (a := Bp) pn_
      have pl_ := lt_blk Hp6.out
      obtain ⟨e0_, e1_, e2_, e3_, e4_, e5_, ef0_, ef1_, ef2_, ef3_, ef4_, ef5_⟩ := at6 He6.out
      have en_ := ne_blk He6.out
      have em_ := Ne.symm (a := Be) en_
      have el_ := lt_blk He6.out
      go_wp2_with fail
      refine cl_gen ?_
      intro v6 hv6
      have Xy : v6.heap[By]? = some (.cells #[.int .u64 y, .int .u64 k, .int .i64 h] 70 (0, 0)) := by
        rw [hv6]
        (repeat' (first | (with_reducible exact Hy6.out) | (with_reducible exact heap_alloc_new _ _) | (with_reducible exact blk_new (by first | (simp; done) | omega)) | (with_reducible refine blk_drew ?_) | (with_reducible refine blk_drewM ?_) | (with_reducible apply put3_0) | (with_reducible apply put3_1) | (with_reducible apply put3_2) | (with_reducible refine blk_else (by omega) ?_) | (with_reducible refine blk_old ?_)))
      have Xj : v6.heap[Bj]? = some (.cells #[.int .u64 s, .int .u64 q, .int .u64 m, .int .u64 g, .int .u64 c, .int .u64 d] 59 (0, 0)) := by
        rw [hv6]
        (repeat' (first | (with_reducible exact Hj6.out) | (with_reducible exact heap_alloc_new _ _) | (with_reducible exact blk_new (by first | (simp; done) | omega)) | (with_reducible refine blk_drew ?_) | (with_reducible refine blk_drewM ?_) | (with_reducible apply put6_0) | (with_reducible apply put6_1) | (with_reducible apply put6_2) | (with_reducible apply put6_3) | (with_reducible apply put6_4) | (with_reducible apply put6_5) | (with_reducible refine blk_else (by omega) ?_) | (with_reducible refine blk_old ?_)))
      have Xo : v6.heap[Bo]? = some (.cells #[.int .u64 r, .int .u64 n, .int .u64 f, .int .u64 a, .int .u64 b] 57 (0, 0)) := by
        rw [hv6]
        (repeat' (first | (with_reducible exact Ho6.out) | (with_reducible exact heap_alloc_new _ _) | (with_reducible exact blk_new (by first | (simp; done) | omega)) | (with_reducible refine blk_drew ?_) | (with_reducible refine blk_drewM ?_) | (with_reducible apply put5_0) | (with_reducible apply put5_1) | (with_reducible apply put5_2) | (with_reducible apply put5_3) | (with_reducible apply put5_4) | (with_reducible refine blk_else (by omega) ?_) | (with_reducible refine blk_old ?_)))
      have Xp : v6.heap[Bp]? = some (.cells #[.int .u64 or_, .int .u64 on, .int .u64 of_, .int .u64 oa, .int .u64 ob] 61 (0, 0)) := by
        rw [hv6]
        (repeat' (first | (with_reducible exact Hp6.out) | (with_reducible exact heap_alloc_new _ _) | (with_reducible exact blk_new (by first | (simp; done) | omega)) | (with_reducible refine blk_drew ?_) | (with_reducible refine blk_drewM ?_) | (with_reducible apply put5_0) | (with_reducible apply put5_1) | (with_reducible apply put5_2) | (with_reducible apply put5_3) | (with_reducible apply put5_4) | (with_reducible refine blk_else (by omega) ?_) | (with_reducible refine blk_old ?_)))
      have Xe : v6.heap[Be]? = some (.cells #[.int .u64 ts, .int .u64 tq, .int .u64 tn, .int .u64 tf, .int .u64 ta, .int .u64 tb] 65 (0, 0)) := by
        rw [hv6]
        (repeat' (first | (with_reducible exact He6.out) | (with_reducible exact heap_alloc_new _ _) | (with_reducible exact blk_new (by first | (simp; done) | omega)) | (with_reducible refine blk_drew ?_) | (with_reducible refine blk_drewM ?_) | (with_reducible apply put6_0) | (with_reducible apply put6_1) | (with_reducible apply put6_2) | (with_reducible apply put6_3) | (with_reducible apply put6_4) | (with_reducible apply put6_5) | (with_reducible refine blk_else (by omega) ?_) | (with_reducible refine blk_old ?_)))
      have XB : Below w.heap.size w v6 := by
        rw [hv6]
        (repeat' (first | (with_reducible exact HB6.out) | (with_reducible exact Below.refl _ _) | (with_reducible refine below_drewN _ ?_) | (with_reducible refine Below.drew ?_) | (with_reducible refine Below.setCell ?_ (by first | (simp; done) | omega) _) | (with_reducible refine Below.alloc ?_ (by have := HB6.out.size; simp; omega) _)))
      clear y0_ y1_ y2_ yf0_ yf1_ yf2_ yn_ ym_ yl_ j0_ j1_ j2_ j3_ j4_ j5_ jf0_ jf1_ jf2_ jf3_ jf4_ jf5_ jn_ jm_ jl_ o0_ o1_ o2_ o3_ o4_ of0_ of1_ of2_ of3_ of4_ on_ om_ ol_ p0_ p1_ p2_ p3_ p4_ pf0_ pf1_ pf2_ pf3_ pf4_ pn_ pm_ pl_ e0_ e1_ e2_ e3_ e4_ e5_ ef0_ ef1_ ef2_ ef3_ ef4_ ef5_ en_ em_ el_
      clear hv6 Hy6 Hj6 Ho6 Hp6 He6 HB6
      refine (LV.out _).mono ?_
      rintro e w7 ⟨rfl, bb⟩
      have Hy7 := Lib.hid (blk_call bb Xy)
      have Hj7 := Lib.hid (blk_call bb Xj)
      have Ho7 := Lib.hid (blk_call bb Xo)
      have Hp7 := Lib.hid (blk_call bb Xp)
      have He7 := Lib.hid (blk_call bb Xe)
      have HB7 := Lib.hid (bel_onto XB bb XB.size)
      clear Xy Xj Xo Xp Xe XB bb
      obtain ⟨y0_, y1_, y2_, yf0_, yf1_, yf2_⟩ := at3 Hy7.out
      have yn_ := ne_blk Hy7.out
      have ym_ := Ne.symm (a := By) yn_
      have yl_ := lt_blk Hy7.out
      obtain ⟨j0_, j1_, j2_, j3_, j4_, j5_, jf0_, jf1_, jf2_, jf3_, jf4_, jf5_⟩ := at6 Hj7.out
      have jn_ := ne_blk Hj7.out
      have jm_ := Ne.symm (a := Bj) jn_
      have jl_ := lt_blk Hj7.out
      obtain ⟨o0_, o1_, o2_, o3_, o4_, of0_, of1_, of2_, of3_, of4_⟩ := at5 Ho7.out
      have on_ := ne_blk Ho7.out
      have om_ := Ne.symm (a := Bo) on_
      have ol_ := lt_blk Ho7.out
      obtain ⟨p0_, p1_, p2_, p3_, p4_, pf0_, pf1_, pf2_, pf3_, pf4_⟩ := at5 Hp7.out
      have pn_ := ne_blk Hp7.out
      have pm_ := Ne.symm (a := Bp) pn_
      have pl_ := lt_blk Hp7.out
      obtain ⟨e0_, e1_, e2_, e3_, e4_, e5_, ef0_, ef1_, ef2_, ef3_, ef4_, ef5_⟩ := at6 He7.out
      have en_ := ne_blk He7.out
      have em_ := Ne.symm (a := Be) en_
      have el_ := lt_blk He7.out
      clear y0_ y1_ y2_ yf0_ yf1_ yf2_ yn_ ym_ yl_ j0_ j1_ j2_ j3_ j4_ j5_ jf0_ jf1_ jf2_ jf3_ jf4_ jf5_ jn_ jm_ jl_ o0_ o1_ o2_ o3_ o4_ of0_ of1_ of2_ of3_ of4_ on_ om_ ol_ p0_ p1_ p2_ p3_ p4_ pf0_ pf1_ pf2_ pf3_ pf4_ pn_ pm_ pl_ e0_ e1_ e2_ e3_ e4_ e5_ ef0_ ef1_ ef2_ ef3_ ef4_ ef5_ en_ em_ el_
      go_wp2
      go_ret
      exact ⟨rfl, HB7.out⟩
    · go_wp2_with fail
      refine cl_gen ?_
      intro v5 hv5
      have Xy : v5.heap[By]? = some (.cells #[.int .u64 y, .int .u64 k, .int .i64 h] 70 (0, 0)) := by
        rw [hv5]
        (repeat' (first | (with_reducible exact Hy5.out) | (with_reducible exact heap_alloc_new _ _) | (with_reducible exact blk_new (by first | (simp; done) | omega)) | (with_reducible refine blk_drew ?_) | (with_reducible refine blk_drewM ?_) | (with_reducible apply put3_0) | (with_reducible apply put3_1) | (with_reducible apply put3_2) | (with_reducible refine blk_else (by omega) ?_) | (with_reducible refine blk_old ?_)))
      have Xj : v5.heap[Bj]? = some (.cells #[.int .u64 s, .int .u64 q, .int .u64 m, .int .u64 g, .int .u64 c, .int .u64 d] 59 (0, 0)) := by
        rw [hv5]
        (repeat' (first | (with_reducible exact Hj5.out) | (with_reducible exact heap_alloc_new _ _) | (with_reducible exact blk_new (by first | (simp; done) | omega)) | (with_reducible refine blk_drew ?_) | (with_reducible refine blk_drewM ?_) | (with_reducible apply put6_0) | (with_reducible apply put6_1) | (with_reducible apply put6_2) | (with_reducible apply put6_3) | (with_reducible apply put6_4) | (with_reducible apply put6_5) | (with_reducible refine blk_else (by omega) ?_) | (with_reducible refine blk_old ?_)))
      have Xo : v5.heap[Bo]? = some (.cells #[.int .u64 r, .int .u64 n, .int .u64 f, .int .u64 a, .int .u64 b] 57 (0, 0)) := by
        rw [hv5]
        (repeat' (first | (with_reducible exact Ho5.out) | (with_reducible exact heap_alloc_new _ _) | (with_reducible exact blk_new (by first | (simp; done) | omega)) | (with_reducible refine blk_drew ?_) | (with_reducible refine blk_drewM ?_) | (with_reducible apply put5_0) | (with_reducible apply put5_1) | (with_reducible apply put5_2) | (with_reducible apply put5_3) | (with_reducible apply put5_4) | (with_reducible refine blk_else (by omega) ?_) | (with_reducible refine blk_old ?_)))
      have Xp : v5.heap[Bp]? = some (.cells #[.int .u64 or_, .int .u64 on, .int .u64 of_, .int .u64 oa, .int .u64 ob] 61 (0, 0)) := by
        rw [hv5]
        (repeat' (first | (with_reducible exact Hp5.out) | (with_reducible exact heap_alloc_new _ _) | (with_reducible exact blk_new (by first | (simp; done) | omega)) | (with_reducible refine blk_drew ?_) | (with_reducible refine blk_drewM ?_) | (with_reducible apply put5_0) | (with_reducible apply put5_1) | (with_reducible apply put5_2) | (with_reducible apply put5_3) | (with_reducible apply put5_4) | (with_reducible refine blk_else (by omega) ?_) | (with_reducible refine blk_old ?_)))
      have Xe : v5.heap[Be]? = some (.cells #[.int .u64 ts, .int .u64 tq, .int .u64 tn, .int .u64 tf, .int .u64 ta, .int .u64 tb] 65 (0, 0)) := by
        rw [hv5]
        (repeat' (first | (with_reducible exact He5.out) | (with_reducible exact heap_alloc_new _ _) | (with_reducible exact blk_new (by first | (simp; done) | omega)) | (with_reducible refine blk_drew ?_) | (with_reducible refine blk_drewM ?_) | (with_reducible apply put6_0) | (with_reducible apply put6_1) | (with_reducible apply put6_2) | (with_reducible apply put6_3) | (with_reducible apply put6_4) | (with_reducible apply put6_5) | (with_reducible refine blk_else (by omega) ?_) | (with_reducible refine blk_old ?_)))
      have XB : Below w.heap.size w v5 := by
        rw [hv5]
        (repeat' (first | (with_reducible exact HB5.out) | (with_reducible exact Below.refl _ _) | (with_reducible refine below_drewN _ ?_) | (with_reducible refine Below.drew ?_) | (with_reducible refine Below.setCell ?_ (by first | (simp; done) | omega) _) | (with_reducible refine Below.alloc ?_ (by have := HB5.out.size; simp; omega) _)))
      clear y0_ y1_ y2_ yf0_ yf1_ yf2_ yn_ ym_ yl_ j0_ j1_ j2_ j3_ j4_ j5_ jf0_ jf1_ jf2_ jf3_ jf4_ jf5_ jn_ jm_ jl_ o0_ o1_ o2_ o3_ o4_ of0_ of1_ of2_ of3_ of4_ on_ om_ ol_ p0_ p1_ p2_ p3_ p4_ pf0_ pf1_ pf2_ pf3_ pf4_ pn_ pm_ pl_ e0_ e1_ e2_ e3_ e4_ e5_ ef0_ ef1_ ef2_ ef3_ ef4_ ef5_ en_ em_ el_
      clear hv5 Hy5 Hj5 Ho5 Hp5 He5 HB5
      refine (M2.out _).mono ?_
      rintro e w6 ⟨rfl, bb⟩
      have Hy6 := Lib.hid (blk_call bb Xy)
      have Hj6 := Lib.hid (blk_call bb Xj)
      have Ho6 := Lib.hid (blk_call bb Xo)
      have Hp6 := Lib.hid (blk_call bb Xp)
      have He6 := Lib.hid (blk_call bb Xe)
      have HB6 := Lib.hid (bel_onto XB bb XB.size)
      clear Xy Xj Xo Xp Xe XB bb
      obtain ⟨y0_, y1_, y2_, yf0_, yf1_, yf2_⟩ := at3 Hy6.out
      have yn_ := ne_blk Hy6.out
      have ym_ := Ne.symm (a := By) yn_
      have yl_ := lt_blk Hy6.out
      obtain ⟨j0_, j1_, j2_, j3_, j4_, j5_, jf0_, jf1_, jf2_, jf3_, jf4_, jf5_⟩ := at6 Hj6.out
      have jn_ := ne_blk Hj6.out
      have jm_ := Ne.symm (a := Bj) jn_
      have jl_ := lt_blk Hj6.out
      obtain ⟨o0_, o1_, o2_, o3_, o4_, of0_, of1_, of2_, of3_, of4_⟩ := at5 Ho6.out
      have on_ := ne_blk Ho6.out
      have om_ := Ne.symm (a := Bo) on_
      have ol_ := lt_blk Ho6.out
      obtain ⟨p0_, p1_, p2_, p3_, p4_, pf0_, pf1_, pf2_, pf3_, pf4_⟩ := at5 Hp6.out
      have pn_ := ne_blk Hp6.out
      have pm_ := Ne.symm (a := Bp) pn_
      have pl_ := lt_blk Hp6.out
      obtain ⟨e0_, e1_, e2_, e3_, e4_, e5_, ef0_, ef1_, ef2_, ef3_, ef4_, ef5_⟩ := at6 He6.out
      have en_ := ne_blk He6.out
      have em_ := Ne.symm (a := Be) en_
      have el_ := lt_blk He6.out
      go_wp2_with fail
      refine cl_gen ?_
      intro v6 hv6
      have Xy : v6.heap[By]? = some (.cells #[.int .u64 y, .int .u64 k, .int .i64 h] 70 (0, 0)) := by
        rw [hv6]
        (repeat' (first | (with_reducible exact Hy6.out) | (with_reducible exact heap_alloc_new _ _) | (with_reducible exact blk_new (by first | (simp; done) | omega)) | (with_reducible refine blk_drew ?_) | (with_reducible refine blk_drewM ?_) | (with_reducible apply put3_0) | (with_reducible apply put3_1) | (with_reducible apply put3_2) | (with_reducible refine blk_else (by omega) ?_) | (with_reducible refine blk_old ?_)))
      have Xj : v6.heap[Bj]? = some (.cells #[.int .u64 s, .int .u64 q, .int .u64 m, .int .u64 g, .int .u64 c, .int .u64 d] 59 (0, 0)) := by
        rw [hv6]
        (repeat' (first | (with_reducible exact Hj6.out) | (with_reducible exact heap_alloc_new _ _) | (with_reducible exact blk_new (by first | (simp; done) | omega)) | (with_reducible refine blk_drew ?_) | (with_reducible refine blk_drewM ?_) | (with_reducible apply put6_0) | (with_reducible apply put6_1) | (with_reducible apply put6_2) | (with_reducible apply put6_3) | (with_reducible apply put6_4) | (with_reducible apply put6_5) | (with_reducible refine blk_else (by omega) ?_) | (with_reducible refine blk_old ?_)))
      have Xo : v6.heap[Bo]? = some (.cells #[.int .u64 r, .int .u64 n, .int .u64 f, .int .u64 a, .int .u64 b] 57 (0, 0)) := by
        rw [hv6]
        (repeat' (first | (with_reducible exact Ho6.out) | (with_reducible exact heap_alloc_new _ _) | (with_reducible exact blk_new (by first | (simp; done) | omega)) | (with_reducible refine blk_drew ?_) | (with_reducible refine blk_drewM ?_) | (with_reducible apply put5_0) | (with_reducible apply put5_1) | (with_reducible apply put5_2) | (with_reducible apply put5_3) | (with_reducible apply put5_4) | (with_reducible refine blk_else (by omega) ?_) | (with_reducible refine blk_old ?_)))
      have Xp : v6.heap[Bp]? = some (.cells #[.int .u64 or_, .int .u64 on, .int .u64 of_, .int .u64 oa, .int .u64 ob] 61 (0, 0)) := by
        rw [hv6]
        (repeat' (first | (with_reducible exact Hp6.out) | (with_reducible exact heap_alloc_new _ _) | (with_reducible exact blk_new (by first | (simp; done) | omega)) | (with_reducible refine blk_drew ?_) | (with_reducible refine blk_drewM ?_) | (with_reducible apply put5_0) | (with_reducible apply put5_1) | (with_reducible apply put5_2) | (with_reducible apply put5_3) | (with_reducible apply put5_4) | (with_reducible refine blk_else (by omega) ?_) | (with_reducible refine blk_old ?_)))
      have Xe : v6.heap[Be]? = some (.cells #[.int .u64 ts, .int .u64 tq, .int .u64 tn, .int .u64 tf, .int .u64 ta, .int .u64 tb] 65 (0, 0)) := by
        rw [hv6]
        (repeat' (first | (with_reducible exact He6.out) | (with_reducible exact heap_alloc_new _ _) | (with_reducible exact blk_new (by first | (simp; done) | omega)) | (with_reducible refine blk_drew ?_) | (with_reducible refine blk_drewM ?_) | (with_reducible apply put6_0) | (with_reducible apply put6_1) | (with_reducible apply put6_2) | (with_reducible apply put6_3) | (with_reducible apply put6_4) | (with_reducible apply put6_5) | (with_reducible refine blk_else (by omega) ?_) | (with_reducible refine blk_old ?_)))
      have XB : Below w.heap.size w v6 := by
        rw [hv6]
        (repeat' (first | (with_reducible exact HB6.out) | (with_reducible exact Below.refl _ _) | (with_reducible refine below_drewN _ ?_) | (with_reducible refine Below.drew ?_) | (with_reducible refine Below.setCell ?_ (by first | (simp; done) | omega) _) | (with_reducible refine Below.alloc ?_ (by have := HB6.out.size; simp; omega) _)))
      clear y0_ y1_ y2_ yf0_ yf1_ yf2_ yn_ ym_ yl_ j0_ j1_ j2_ j3_ j4_ j5_ jf0_ jf1_ jf2_ jf3_ jf4_ jf5_ jn_ jm_ jl_ o0_ o1_ o2_ o3_ o4_ of0_ of1_ of2_ of3_ of4_ on_ om_ ol_ p0_ p1_ p2_ p3_ p4_ pf0_ pf1_ pf2_ pf3_ pf4_ pn_ pm_ pl_ e0_ e1_ e2_ e3_ e4_ e5_ ef0_ ef1_ ef2_ ef3_ ef4_ ef5_ en_ em_ el_
      clear hv6 Hy6 Hj6 Ho6 Hp6 He6 HB6
      refine (LV.out _).mono ?_
      rintro e w7 ⟨rfl, bb⟩
      have Hy7 := Lib.hid (blk_call bb Xy)
      have Hj7 := Lib.hid (blk_call bb Xj)
      have Ho7 := Lib.hid (blk_call bb Xo)
      have Hp7 := Lib.hid (blk_call bb Xp)
      have He7 := Lib.hid (blk_call bb Xe)
      have HB7 := Lib.hid (bel_onto XB bb XB.size)
      clear Xy Xj Xo Xp Xe XB bb
      obtain ⟨y0_, y1_, y2_, yf0_, yf1_, yf2_⟩ := at3 Hy7.out
      have yn_ := ne_blk Hy7.out
      have ym_ := Ne.symm (a := By) yn_
      have yl_ := lt_blk Hy7.out
      obtain ⟨j0_, j1_, j2_, j3_, j4_, j5_, jf0_, jf1_, jf2_, jf3_, jf4_, jf5_⟩ := at6 Hj7.out
      have jn_ := ne_blk Hj7.out
      have jm_ := Ne.symm (a := Bj) jn_
      have jl_ := lt_blk Hj7.out
      obtain ⟨o0_, o1_, o2_, o3_, o4_, of0_, of1_, of2_, of3_, of4_⟩ := at5 Ho7.out
      have on_ := ne_blk Ho7.out
      have om_ := Ne.symm (a := Bo) on_
      have ol_ := lt_blk Ho7.out
      obtain ⟨p0_, p1_, p2_, p3_, p4_, pf0_, pf1_, pf2_, pf3_, pf4_⟩ := at5 Hp7.out
      have pn_ := ne_blk Hp7.out
      have pm_ := Ne.symm (a := Bp) pn_
      have pl_ := lt_blk Hp7.out
      obtain ⟨e0_, e1_, e2_, e3_, e4_, e5_, ef0_, ef1_, ef2_, ef3_, ef4_, ef5_⟩ := at6 He7.out
      have en_ := ne_blk He7.out
      have em_ := Ne.symm (a := Be) en_
      have el_ := lt_blk He7.out
      clear y0_ y1_ y2_ yf0_ yf1_ yf2_ yn_ ym_ yl_ j0_ j1_ j2_ j3_ j4_ j5_ jf0_ jf1_ jf2_ jf3_ jf4_ jf5_ jn_ jm_ jl_ o0_ o1_ o2_ o3_ o4_ of0_ of1_ of2_ of3_ of4_ on_ om_ ol_ p0_ p1_ p2_ p3_ p4_ pf0_ pf1_ pf2_ pf3_ pf4_ pn_ pm_ pl_ e0_ e1_ e2_ e3_ e4_ e5_ ef0_ ef1_ ef2_ ef3_ ef4_ ef5_ en_ em_ el_
      go_wp2
      go_ret
      exact ⟨rfl, HB7.out⟩
    · go_wp2_with fail
      refine cl_gen ?_
      intro v5 hv5
      have Xy : v5.heap[By]? = some (.cells #[.int .u64 y, .int .u64 k, .int .i64 h] 70 (0, 0)) := by
        rw [hv5]
        (repeat' (first | (with_reducible exact Hy5.out) | (with_reducible exact heap_alloc_new _ _) | (with_reducible exact blk_new (by first | (simp; done) | omega)) | (with_reducible refine blk_drew ?_) | (with_reducible refine blk_drewM ?_) | (with_reducible apply put3_0) | (with_reducible apply put3_1) | (with_reducible apply put3_2) | (with_reducible refine blk_else (by omega) ?_) | (with_reducible refine blk_old ?_)))
      have Xj : v5.heap[Bj]? = some (.cells #[.int .u64 s, .int .u64 q, .int .u64 m, .int .u64 g, .int .u64 c, .int .u64 d] 59 (0, 0)) := by
        rw [hv5]
        (repeat' (first | (with_reducible exact Hj5.out) | (with_reducible exact heap_alloc_new _ _) | (with_reducible exact blk_new (by first | (simp; done) | omega)) | (with_reducible refine blk_drew ?_) | (with_reducible refine blk_drewM ?_) | (with_reducible apply put6_0) | (with_reducible apply put6_1) | (with_reducible apply put6_2) | (with_reducible apply put6_3) | (with_reducible apply put6_4) | (with_reducible apply put6_5) | (with_reducible refine blk_else (by omega) ?_) | (with_reducible refine blk_old ?_)))
      have Xo : v5.heap[Bo]? = some (.cells #[.int .u64 r, .int .u64 n, .int .u64 f, .int .u64 a, .int .u64 b] 57 (0, 0)) := by
        rw [hv5]
        (repeat' (first | (with_reducible exact Ho5.out) | (with_reducible exact heap_alloc_new _ _) | (with_reducible exact blk_new (by first | (simp; done) | omega)) | (with_reducible refine blk_drew ?_) | (with_reducible refine blk_drewM ?_) | (with_reducible apply put5_0) | (with_reducible apply put5_1) | (with_reducible apply put5_2) | (with_reducible apply put5_3) | (with_reducible apply put5_4) | (with_reducible refine blk_else (by omega) ?_) | (with_reducible refine blk_old ?_)))
      have Xp : v5.heap[Bp]? = some (.cells #[.int .u64 or_, .int .u64 on, .int .u64 of_, .int .u64 oa, .int .u64 ob] 61 (0, 0)) := by
        rw [hv5]
        (repeat' (first | (with_reducible exact Hp5.out) | (with_reducible exact heap_alloc_new _ _) | (with_reducible exact blk_new (by first | (simp; done) | omega)) | (with_reducible refine blk_drew ?_) | (with_reducible refine blk_drewM ?_) | (with_reducible apply put5_0) | (with_reducible apply put5_1) | (with_reducible apply put5_2) | (with_reducible apply put5_3) | (with_reducible apply put5_4) | (with_reducible refine blk_else (by omega) ?_) | (with_reducible refine blk_old ?_)))
      have Xe : v5.heap[Be]? = some (.cells #[.int .u64 s, .int .u64 q, .int .u64 m, .int .u64 g, .int .u64 c, .int .u64 d] 65 (0, 0)) := by
        rw [hv5]
        (repeat' (first | (with_reducible exact He5.out) | (with_reducible exact heap_alloc_new _ _) | (with_reducible exact blk_new (by first | (simp; done) | omega)) | (with_reducible refine blk_drew ?_) | (with_reducible refine blk_drewM ?_) | (with_reducible apply put6_0) | (with_reducible apply put6_1) | (with_reducible apply put6_2) | (with_reducible apply put6_3) | (with_reducible apply put6_4) | (with_reducible apply put6_5) | (with_reducible refine blk_else (by omega) ?_) | (with_reducible refine blk_old ?_)))
      have XB : Below w.heap.size w v5 := by
        rw [hv5]
        (repeat' (first | (with_reducible exact HB5.out) | (with_reducible exact Below.refl _ _) | (with_reducible refine below_drewN _ ?_) | (with_reducible refine Below.drew ?_) | (with_reducible refine Below.setCell ?_ (by first | (simp; done) | omega) _) | (with_reducible refine Below.alloc ?_ (by have := HB5.out.size; simp; omega) _)))
      clear y0_ y1_ y2_ yf0_ yf1_ yf2_ yn_ ym_ yl_ j0_ j1_ j2_ j3_ j4_ j5_ jf0_ jf1_ jf2_ jf3_ jf4_ jf5_ jn_ jm_ jl_ o0_ o1_ o2_ o3_ o4_ of0_ of1_ of2_ of3_ of4_ on_ om_ ol_ p0_ p1_ p2_ p3_ p4_ pf0_ pf1_ pf2_ pf3_ pf4_ pn_ pm_ pl_ e0_ e1_ e2_ e3_ e4_ e5_ ef0_ ef1_ ef2_ ef3_ ef4_ ef5_ en_ em_ el_
      clear hv5 Hy5 Hj5 Ho5 Hp5 He5 HB5
      refine (M2.out _).mono ?_
      rintro e w6 ⟨rfl, bb⟩
      have Hy6 := Lib.hid (blk_call bb Xy)
      have Hj6 := Lib.hid (blk_call bb Xj)
      have Ho6 := Lib.hid (blk_call bb Xo)
      have Hp6 := Lib.hid (blk_call bb Xp)
      have He6 := Lib.hid (blk_call bb Xe)
      have HB6 := Lib.hid (bel_onto XB bb XB.size)
      clear Xy Xj Xo Xp Xe XB bb
      obtain ⟨y0_, y1_, y2_, yf0_, yf1_, yf2_⟩ := at3 Hy6.out
      have yn_ := ne_blk Hy6.out
      have ym_ := Ne.symm (a := By) yn_
      have yl_ := lt_blk Hy6.out
      obtain ⟨j0_, j1_, j2_, j3_, j4_, j5_, jf0_, jf1_, jf2_, jf3_, jf4_, jf5_⟩ := at6 Hj6.out
      have jn_ := ne_blk Hj6.out
      have jm_ := Ne.symm (a := Bj) jn_
      have jl_ := lt_blk Hj6.out
      obtain ⟨o0_, o1_, o2_, o3_, o4_, of0_, of1_, of2_, of3_, of4_⟩ := at5 Ho6.out
      have on_ := ne_blk Ho6.out
      have om_ := Ne.symm (a := Bo) on_
      have ol_ := lt_blk Ho6.out
      obtain ⟨p0_, p1_, p2_, p3_, p4_, pf0_, pf1_, pf2_, pf3_, pf4_⟩ := at5 Hp6.out
      have pn_ := ne_blk Hp6.out
      have pm_ := Ne.symm (a := Bp) pn_
      have pl_ := lt_blk Hp6.out
      obtain ⟨e0_, e1_, e2_, e3_, e4_, e5_, ef0_, ef1_, ef2_, ef3_, ef4_, ef5_⟩ := at6 He6.out
      have en_ := ne_blk He6.out
      have em_ := Ne.symm (a := Be) en_
      have el_ := lt_blk He6.out
      go_wp2_with fail
      refine cl_gen ?_
      intro v6 hv6
      have Xy : v6.heap[By]? = some (.cells #[.int .u64 y, .int .u64 k, .int .i64 h] 70 (0, 0)) := by
        rw [hv6]
        (repeat' (first | (with_reducible exact Hy6.out) | (with_reducible exact heap_alloc_new _ _) | (with_reducible exact blk_new (by first | (simp; done) | omega)) | (with_reducible refine blk_drew ?_) | (with_reducible refine blk_drewM ?_) | (with_reducible apply put3_0) | (with_reducible apply put3_1) | (with_reducible apply put3_2) | (with_reducible refine blk_else (by omega) ?_) | (with_reducible refine blk_old ?_)))
      have Xj : v6.heap[Bj]? = some (.cells #[.int .u64 s, .int .u64 q, .int .u64 m, .int .u64 g, .int .u64 c, .int .u64 d] 59 (0, 0)) := by
        rw [hv6]
        (repeat' (first | (with_reducible exact Hj6.out) | (with_reducible exact heap_alloc_new _ _) | (with_reducible exact blk_new (by first | (simp; done) | omega)) | (with_reducible refine blk_drew ?_) | (with_reducible refine blk_drewM ?_) | (with_reducible apply put6_0) | (with_reducible apply put6_1) | (with_reducible apply put6_2) | (with_reducible apply put6_3) | (with_reducible apply put6_4) | (with_reducible apply put6_5) | (with_reducible refine blk_else (by omega) ?_) | (with_reducible refine blk_old ?_)))
      have Xo : v6.heap[Bo]? = some (.cells #[.int .u64 r, .int .u64 n, .int .u64 f, .int .u64 a, .int .u64 b] 57 (0, 0)) := by
        rw [hv6]
        (repeat' (first | (with_reducible exact Ho6.out) | (with_reducible exact heap_alloc_new _ _) | (with_reducible exact blk_new (by first | (simp; done) | omega)) | (with_reducible refine blk_drew ?_) | (with_reducible refine blk_drewM ?_) | (with_reducible apply put5_0) | (with_reducible apply put5_1) | (with_reducible apply put5_2) | (with_reducible apply put5_3) | (with_reducible apply put5_4) | (with_reducible refine blk_else (by omega) ?_) | (with_reducible refine blk_old ?_)))
      have Xp : v6.heap[Bp]? = some (.cells #[.int .u64 or_, .int .u64 on, .int .u64 of_, .int .u64 oa, .int .u64 ob] 61 (0, 0)) := by
        rw [hv6]
        (repeat' (first | (with_reducible exact Hp6.out) | (with_reducible exact heap_alloc_new _ _) | (with_reducible exact blk_new (by first | (simp; done) | omega)) | (with_reducible refine blk_drew ?_) | (with_reducible refine blk_drewM ?_) | (with_reducible apply put5_0) | (with_reducible apply put5_1) | (with_reducible apply put5_2) | (with_reducible apply put5_3) | (with_reducible apply put5_4) | (with_reducible refine blk_else (by omega) ?_) | (with_reducible refine blk_old ?_)))
      have Xe : v6.heap[Be]? = some (.cells #[.int .u64 s, .int .u64 q, .int .u64 m, .int .u64 g, .int .u64 c, .int .u64 d] 65 (0, 0)) := by
        rw [hv6]
        (repeat' (first | (with_reducible exact He6.out) | (with_reducible exact heap_alloc_new _ _) | (with_reducible exact blk_new (by first | (simp; done) | omega)) | (with_reducible refine blk_drew ?_) | (with_reducible refine blk_drewM ?_) | (with_reducible apply put6_0) | (with_reducible apply put6_1) | (with_reducible apply put6_2) | (with_reducible apply put6_3) | (with_reducible apply put6_4) | (with_reducible apply put6_5) | (with_reducible refine blk_else (by omega) ?_) | (with_reducible refine blk_old ?_)))
      have XB : Below w.heap.size w v6 := by
        rw [hv6]
        (repeat' (first | (with_reducible exact HB6.out) | (with_reducible exact Below.refl _ _) | (with_reducible refine below_drewN _ ?_) | (with_reducible refine Below.drew ?_) | (with_reducible refine Below.setCell ?_ (by first | (simp; done) | omega) _) | (with_reducible refine Below.alloc ?_ (by have := HB6.out.size; simp; omega) _)))
      clear y0_ y1_ y2_ yf0_ yf1_ yf2_ yn_ ym_ yl_ j0_ j1_ j2_ j3_ j4_ j5_ jf0_ jf1_ jf2_ jf3_ jf4_ jf5_ jn_ jm_ jl_ o0_ o1_ o2_ o3_ o4_ of0_ of1_ of2_ of3_ of4_ on_ om_ ol_ p0_ p1_ p2_ p3_ p4_ pf0_ pf1_ pf2_ pf3_ pf4_ pn_ pm_ pl_ e0_ e1_ e2_ e3_ e4_ e5_ ef0_ ef1_ ef2_ ef3_ ef4_ ef5_ en_ em_ el_
      clear hv6 Hy6 Hj6 Ho6 Hp6 He6 HB6
      refine (LV.out _).mono ?_
      rintro e w7 ⟨rfl, bb⟩
      have Hy7 := Lib.hid (blk_call bb Xy)
      have Hj7 := Lib.hid (blk_call bb Xj)
      have Ho7 := Lib.hid (blk_call bb Xo)
      have Hp7 := Lib.hid (blk_call bb Xp)
      have He7 := Lib.hid (blk_call bb Xe)
      have HB7 := Lib.hid (bel_onto XB bb XB.size)
      clear Xy Xj Xo Xp Xe XB bb
      obtain ⟨y0_, y1_, y2_, yf0_, yf1_, yf2_⟩ := at3 Hy7.out
      have yn_ := ne_blk Hy7.out
      have ym_ := Ne.symm (a := By) yn_
      have yl_ := lt_blk Hy7.out
      obtain ⟨j0_, j1_, j2_, j3_, j4_, j5_, jf0_, jf1_, jf2_, jf3_, jf4_, jf5_⟩ := at6 Hj7.out
      have jn_ := ne_blk Hj7.out
      have jm_ := Ne.symm (a := Bj) jn_
      have jl_ := lt_blk Hj7.out
      obtain ⟨o0_, o1_, o2_, o3_, o4_, of0_, of1_, of2_, of3_, of4_⟩ := at5 Ho7.out
      have on_ := ne_blk Ho7.out
      have om_ := Ne.symm (a := Bo) on_
      have ol_ := lt_blk Ho7.out
      obtain ⟨p0_, p1_, p2_, p3_, p4_, pf0_, pf1_, pf2_, pf3_, pf4_⟩ := at5 Hp7.out
      have pn_ := ne_blk Hp7.out
      have pm_ := Ne.symm (a := Bp) pn_
      have pl_ := lt_blk Hp7.out
      obtain ⟨e0_, e1_, e2_, e3_, e4_, e5_, ef0_, ef1_, ef2_, ef3_, ef4_, ef5_⟩ := at6 He7.out
      have en_ := ne_blk He7.out
      have em_ := Ne.symm (a := Be) en_
      have el_ := lt_blk He7.out
      clear y0_ y1_ y2_ yf0_ yf1_ yf2_ yn_ ym_ yl_ j0_ j1_ j2_ j3_ j4_ j5_ jf0_ jf1_ jf2_ jf3_ jf4_ jf5_ jn_ jm_ jl_ o0_ o1_ o2_ o3_ o4_ of0_ of1_ of2_ of3_ of4_ on_ om_ ol_ p0_ p1_ p2_ p3_ p4_ pf0_ pf1_ pf2_ pf3_ pf4_ pn_ pm_ pl_ e0_ e1_ e2_ e3_ e4_ e5_ ef0_ ef1_ ef2_ ef3_ ef4_ ef5_ en_ em_ el_
      go_wp2
      go_ret
      exact ⟨rfl, HB7.out⟩
  · go_wp2_with fail
    refine cl_gen ?_
    intro v4 hv4
    have Xy : v4.heap[By]? = some (.cells #[.int .u64 y, .int .u64 k, .int .i64 h] 70 (0, 0)) := by
      rw [hv4]
      (repeat' (first | (with_reducible exact Hy4.out) | (with_reducible exact heap_alloc_new _ _) | (with_reducible exact blk_new (by first | (simp; done) | omega)) | (with_reducible refine blk_drew ?_) | (with_reducible refine blk_drewM ?_) | (with_reducible apply put3_0) | (with_reducible apply put3_1) | (with_reducible apply put3_2) | (with_reducible refine blk_else (by omega) ?_) | (with_reducible refine blk_old ?_)))
    have Xj : v4.heap[Bj]? = some (.cells #[.int .u64 s, .int .u64 q, .int .u64 m, .int .u64 g, .int .u64 c, .int .u64 d] 59 (0, 0)) := by
      rw [hv4]
      (repeat' (first | (with_reducible exact Hj4.out) | (with_reducible exact heap_alloc_new _ _) | (with_reducible exact blk_new (by first | (simp; done) | omega)) | (with_reducible refine blk_drew ?_) | (with_reducible refine blk_drewM ?_) | (with_reducible apply put6_0) | (with_reducible apply put6_1) | (with_reducible apply put6_2) | (with_reducible apply put6_3) | (with_reducible apply put6_4) | (with_reducible apply put6_5) | (with_reducible refine blk_else (by omega) ?_) | (with_reducible refine blk_old ?_)))
    have Xo : v4.heap[Bo]? = some (.cells #[.int .u64 r, .int .u64 n, .int .u64 f, .int .u64 a, .int .u64 b] 57 (0, 0)) := by
      rw [hv4]
      (repeat' (first | (with_reducible exact Ho4.out) | (with_reducible exact heap_alloc_new _ _) | (with_reducible exact blk_new (by first | (simp; done) | omega)) | (with_reducible refine blk_drew ?_) | (with_reducible refine blk_drewM ?_) | (with_reducible apply put5_0) | (with_reducible apply put5_1) | (with_reducible apply put5_2) | (with_reducible apply put5_3) | (with_reducible apply put5_4) | (with_reducible refine blk_else (by omega) ?_) | (with_reducible refine blk_old ?_)))
    have Xp : v4.heap[Bp]? = some (.cells #[.int .u64 r, .int .u64 n, .int .u64 f, .int .u64 a, .int .u64 b] 61 (0, 0)) := by
      rw [hv4]
      (repeat' (first | (with_reducible exact Hp4.out) | (with_reducible exact heap_alloc_new _ _) | (with_reducible exact blk_new (by first | (simp; done) | omega)) | (with_reducible refine blk_drew ?_) | (with_reducible refine blk_drewM ?_) | (with_reducible apply put5_0) | (with_reducible apply put5_1) | (with_reducible apply put5_2) | (with_reducible apply put5_3) | (with_reducible apply put5_4) | (with_reducible refine blk_else (by omega) ?_) | (with_reducible refine blk_old ?_)))
    have Xe : v4.heap[Be]? = some (.cells #[.int .u64 ts, .int .u64 tq, .int .u64 tn, .int .u64 tf, .int .u64 ta, .int .u64 tb] 65 (0, 0)) := by
      rw [hv4]
      (repeat' (first | (with_reducible exact He4.out) | (with_reducible exact heap_alloc_new _ _) | (with_reducible exact blk_new (by first | (simp; done) | omega)) | (with_reducible refine blk_drew ?_) | (with_reducible refine blk_drewM ?_) | (with_reducible apply put6_0) | (with_reducible apply put6_1) | (with_reducible apply put6_2) | (with_reducible apply put6_3) | (with_reducible apply put6_4) | (with_reducible apply put6_5) | (with_reducible refine blk_else (by omega) ?_) | (with_reducible refine blk_old ?_)))
    have XB : Below w.heap.size w v4 := by
      rw [hv4]
      (repeat' (first | (with_reducible exact HB4.out) | (with_reducible exact Below.refl _ _) | (with_reducible refine below_drewN _ ?_) | (with_reducible refine Below.drew ?_) | (with_reducible refine Below.setCell ?_ (by first | (simp; done) | omega) _) | (with_reducible refine Below.alloc ?_ (by have := HB4.out.size; simp; omega) _)))
    clear y0_ y1_ y2_ yf0_ yf1_ yf2_ yn_ ym_ yl_ j0_ j1_ j2_ j3_ j4_ j5_ jf0_ jf1_ jf2_ jf3_ jf4_ jf5_ jn_ jm_ jl_ o0_ o1_ o2_ o3_ o4_ of0_ of1_ of2_ of3_ of4_ on_ om_ ol_ p0_ p1_ p2_ p3_ p4_ pf0_ pf1_ pf2_ pf3_ pf4_ pn_ pm_ pl_ e0_ e1_ e2_ e3_ e4_ e5_ ef0_ ef1_ ef2_ ef3_ ef4_ ef5_ en_ em_ el_
    clear hv4 Hy4 Hj4 Ho4 Hp4 He4 HB4
    refine (M1.out _).mono ?_
    rintro e w5 ⟨rfl, bb⟩
    have Hy5 := Lib.hid (blk_call bb Xy)
    have Hj5 := Lib.hid (blk_call bb Xj)
    have Ho5 := Lib.hid (blk_call bb Xo)
    have Hp5 := Lib.hid (blk_call bb Xp)
    have He5 := Lib.hid (blk_call bb Xe)
    have HB5 := Lib.hid (bel_onto XB bb XB.size)
    clear Xy Xj Xo Xp Xe XB bb
    obtain ⟨y0_, y1_, y2_, yf0_, yf1_, yf2_⟩ := at3 Hy5.out
    have yn_ := ne_blk Hy5.out
    have ym_ := Ne.symm (a := By) yn_
    have yl_ := lt_blk Hy5.out
    obtain ⟨j0_, j1_, j2_, j3_, j4_, j5_, jf0_, jf1_, jf2_, jf3_, jf4_, jf5_⟩ := at6 Hj5.out
    have jn_ := ne_blk Hj5.out
    have jm_ := Ne.symm (a := Bj) jn_
    have jl_ := lt_blk Hj5.out
    obtain ⟨o0_, o1_, o2_, o3_, o4_, of0_, of1_, of2_, of3_, of4_⟩ := at5 Ho5.out
    have on_ := ne_blk Ho5.out
    have om_ := Ne.symm (a := Bo) on_
    have ol_ := lt_blk Ho5.out
    obtain ⟨p0_, p1_, p2_, p3_, p4_, pf0_, pf1_, pf2_, pf3_, pf4_⟩ := at5 Hp5.out
    have pn_ := ne_blk Hp5.out
    have pm_ := Ne.symm (a := Bp) pn_
    have pl_ := lt_blk Hp5.out
    obtain ⟨e0_, e1_, e2_, e3_, e4_, e5_, ef0_, ef1_, ef2_, ef3_, ef4_, ef5_⟩ := at6 He5.out
    have en_ := ne_blk He5.out
    have em_ := Ne.symm (a := Be) en_
    have el_ := lt_blk He5.out
    rcases hc2 with gc2 | ⟨gc2, gc4⟩ | ⟨gc2, gc4, rfl, rfl, rfl, rfl, rfl, rfl⟩
    · go_wp2_with fail
      refine cl_gen ?_
      intro v5 hv5
      have Xy : v5.heap[By]? = some (.cells #[.int .u64 y, .int .u64 k, .int .i64 h] 70 (0, 0)) := by
        rw [hv5]
        (repeat' (first | (with_reducible exact Hy5.out) | (with_reducible exact heap_alloc_new _ _) | (with_reducible exact blk_new (by first | (simp; done) | omega)) | (with_reducible refine blk_drew ?_) | (with_reducible refine blk_drewM ?_) | (with_reducible apply put3_0) | (with_reducible apply put3_1) | (with_reducible apply put3_2) | (with_reducible refine blk_else (by omega) ?_) | (with_reducible refine blk_old ?_)))
      have Xj : v5.heap[Bj]? = some (.cells #[.int .u64 s, .int .u64 q, .int .u64 m, .int .u64 g, .int .u64 c, .int .u64 d] 59 (0, 0)) := by
        rw [hv5]
        (repeat' (first | (with_reducible exact Hj5.out) | (with_reducible exact heap_alloc_new _ _) | (with_reducible exact blk_new (by first | (simp; done) | omega)) | (with_reducible refine blk_drew ?_) | (with_reducible refine blk_drewM ?_) | (with_reducible apply put6_0) | (with_reducible apply put6_1) | (with_reducible apply put6_2) | (with_reducible apply put6_3) | (with_reducible apply put6_4) | (with_reducible apply put6_5) | (with_reducible refine blk_else (by omega) ?_) | (with_reducible refine blk_old ?_)))
      have Xo : v5.heap[Bo]? = some (.cells #[.int .u64 r, .int .u64 n, .int .u64 f, .int .u64 a, .int .u64 b] 57 (0, 0)) := by
        rw [hv5]
        (repeat' (first | (with_reducible exact Ho5.out) | (with_reducible exact heap_alloc_new _ _) | (with_reducible exact blk_new (by first | (simp; done) | omega)) | (with_reducible refine blk_drew ?_) | (with_reducible refine blk_drewM ?_) | (with_reducible apply put5_0) | (with_reducible apply put5_1) | (with_reducible apply put5_2) | (with_reducible apply put5_3) | (with_reducible apply put5_4) | (with_reducible refine blk_else (by omega) ?_) | (with_reducible refine blk_old ?_)))
      have Xp : v5.heap[Bp]? = some (.cells #[.int .u64 r, .int .u64 n, .int .u64 f, .int .u64 a, .int .u64 b] 61 (0, 0)) := by
        rw [hv5]
        (repeat' (first | (with_reducible exact Hp5.out) | (with_reducible exact heap_alloc_new _ _) | (with_reducible exact blk_new (by first | (simp; done) | omega)) | (with_reducible refine blk_drew ?_) | (with_reducible refine blk_drewM ?_) | (with_reducible apply put5_0) | (with_reducible apply put5_1) | (with_reducible apply put5_2) | (with_reducible apply put5_3) | (with_reducible apply put5_4) | (with_reducible refine blk_else (by omega) ?_) | (with_reducible refine blk_old ?_)))
      have Xe : v5.heap[Be]? = some (.cells #[.int .u64 ts, .int .u64 tq, .int .u64 tn, .int .u64 tf, .int .u64 ta, .int .u64 tb] 65 (0, 0)) := by
        rw [hv5]
        (repeat' (first | (with_reducible exact He5.out) | (with_reducible exact heap_alloc_new _ _) | (with_reducible exact blk_new (by first | (simp; done) | omega)) | (with_reducible refine blk_drew ?_) | (with_reducible refine blk_drewM ?_) | (with_reducible apply put6_0) | (with_reducible apply put6_1) | (with_reducible apply put6_2) | (with_reducible apply put6_3) | (with_reducible apply put6_4) | (with_reducible apply put6_5) | (with_reducible refine blk_else (by omega) ?_) | (with_reducible refine blk_old ?_)))
      have XB : Below w.heap.size w v5 := by
        rw [hv5]
        (repeat' (first | (with_reducible exact HB5.out) | (with_reducible exact Below.refl _ _) | (with_reducible refine below_drewN _ ?_) | (with_reducible refine Below.drew ?_) | (with_reducible refine Below.setCell ?_ (by first | (simp; done) | omega) _) | (with_reducible refine Below.alloc ?_ (by have := HB5.out.size; simp; omega) _)))
      clear y0_ y1_ y2_ yf0_ yf1_ yf2_ yn_ ym_ yl_ j0_ j1_ j2_ j3_ j4_ j5_ jf0_ jf1_ jf2_ jf3_ jf4_ jf5_ jn_ jm_ jl_ o0_ o1_ o2_ o3_ o4_ of0_ of1_ of2_ of3_ of4_ on_ om_ ol_ p0_ p1_ p2_ p3_ p4_ pf0_ pf1_ pf2_ pf3_ pf4_ pn_ pm_ pl_ e0_ e1_ e2_ e3_ e4_ e5_ ef0_ ef1_ ef2_ ef3_ ef4_ ef5_ en_ em_ el_
      clear hv5 Hy5 Hj5 Ho5 Hp5 He5 HB5
      refine (M2.out _).mono ?_
      rintro e w6 ⟨rfl, bb⟩
      have Hy6 := Lib.hid (blk_call bb Xy)
      have Hj6 := Lib.hid (blk_call bb Xj)
      have Ho6 := Lib.hid (blk_call bb Xo)
      have Hp6 := Lib.hid (blk_call bb Xp)
      have He6 := Lib.hid (blk_call bb Xe)
      have HB6 := Lib.hid (bel_onto XB bb XB.size)
      clear Xy Xj Xo Xp Xe XB bb
      obtain ⟨y0_, y1_, y2_, yf0_, yf1_, yf2_⟩ := at3 Hy6.out
      have yn_ := ne_blk Hy6.out
      have ym_ := Ne.symm (a := By) yn_
      have yl_ := lt_blk Hy6.out
      obtain ⟨j0_, j1_, j2_, j3_, j4_, j5_, jf0_, jf1_, jf2_, jf3_, jf4_, jf5_⟩ := at6 Hj6.out
      have jn_ := ne_blk Hj6.out
      have jm_ := Ne.symm (a := Bj) jn_
      have jl_ := lt_blk Hj6.out
      obtain ⟨o0_, o1_, o2_, o3_, o4_, of0_, of1_, of2_, of3_, of4_⟩ := at5 Ho6.out
      have on_ := ne_blk Ho6.out
      have om_ := Ne.symm (a := Bo) on_
      have ol_ := lt_blk Ho6.out
      obtain ⟨p0_, p1_, p2_, p3_, p4_, pf0_, pf1_, pf2_, pf3_, pf4_⟩ := at5 Hp6.out
      have pn_ := ne_blk Hp6.out
      have pm_ := Ne.symm (a := Bp) pn_
      have pl_ := lt_blk Hp6.out
      obtain ⟨e0_, e1_, e2_, e3_, e4_, e5_, ef0_, ef1_, ef2_, ef3_, ef4_, ef5_⟩ := at6 He6.out
      have en_ := ne_blk He6.out
      have em_ := Ne.symm (a := Be) en_
      have el_ := lt_blk He6.out
      go_wp2_with fail
      refine cl_gen ?_
      intro v6 hv6
      have Xy : v6.heap[By]? = some (.cells #[.int .u64 y, .int .u64 k, .int .i64 h] 70 (0, 0)) := by
        rw [hv6]
        (repeat' (first | (with_reducible exact Hy6.out) | (with_reducible exact heap_alloc_new _ _) | (with_reducible exact blk_new (by first | (simp; done) | omega)) | (with_reducible refine blk_drew ?_) | (with_reducible refine blk_drewM ?_) | (with_reducible apply put3_0) | (with_reducible apply put3_1) | (with_reducible apply put3_2) | (with_reducible refine blk_else (by omega) ?_) | (with_reducible refine blk_old ?_)))
      have Xj : v6.heap[Bj]? = some (.cells #[.int .u64 s, .int .u64 q, .int .u64 m, .int .u64 g, .int .u64 c, .int .u64 d] 59 (0, 0)) := by
        rw [hv6]
        (repeat' (first | (with_reducible exact Hj6.out) | (with_reducible exact heap_alloc_new _ _) | (with_reducible exact blk_new (by first | (simp; done) | omega)) | (with_reducible refine blk_drew ?_) | (with_reducible refine blk_drewM ?_) | (with_reducible apply put6_0) | (with_reducible apply put6_1) | (with_reducible apply put6_2) | (with_reducible apply put6_3) | (with_reducible apply put6_4) | (with_reducible apply put6_5) | (with_reducible refine blk_else (by omega) ?_) | (with_reducible refine blk_old ?_)))
      have Xo : v6.heap[Bo]? = some (.cells #[.int .u64 r, .int .u64 n, .int .u64 f, .int .u64 a, .int .u64 b] 57 (0, 0)) := by
        rw [hv6]
        (repeat' (first | (with_reducible exact Ho6.out) | (with_reducible exact heap_alloc_new _ _) | (with_reducible exact blk_new (by first | (simp; done) | omega)) | (with_reducible refine blk_drew ?_) | (with_reducible refine blk_drewM ?_) | (with_reducible apply put5_0) | (with_reducible apply put5_1) | (with_reducible apply put5_2) | (with_reducible apply put5_3) | (with_reducible apply put5_4) | (with_reducible refine blk_else (by omega) ?_) | (with_reducible refine blk_old ?_)))
      have Xp : v6.heap[Bp]? = some (.cells #[.int .u64 r, .int .u64 n, .int .u64 f, .int .u64 a, .int .u64 b] 61 (0, 0)) := by
        rw [hv6]
        (repeat' (first | (with_reducible exact Hp6.out) | (with_reducible exact heap_alloc_new _ _) | (with_reducible exact blk_new (by first | (simp; done) | omega)) | (with_reducible refine blk_drew ?_) | (with_reducible refine blk_drewM ?_) | (with_reducible apply put5_0) | (with_reducible apply put5_1) | (with_reducible apply put5_2) | (with_reducible apply put5_3) | (with_reducible apply put5_4) | (with_reducible refine blk_else (by omega) ?_) | (with_reducible refine blk_old ?_)))
      have Xe : v6.heap[Be]? = some (.cells #[.int .u64 ts, .int .u64 tq, .int .u64 tn, .int .u64 tf, .int .u64 ta, .int .u64 tb] 65 (0, 0)) := by
        rw [hv6]
        (repeat' (first | (with_reducible exact He6.out) | (with_reducible exact heap_alloc_new _ _) | (with_reducible exact blk_new (by first | (simp; done) | omega)) | (with_reducible refine blk_drew ?_) | (with_reducible refine blk_drewM ?_) | (with_reducible apply put6_0) | (with_reducible apply put6_1) | (with_reducible apply put6_2) | (with_reducible apply put6_3) | (with_reducible apply put6_4) | (with_reducible apply put6_5) | (with_reducible refine blk_else (by omega) ?_) | (with_reducible refine blk_old ?_)))
      have XB : Below w.heap.size w v6 := by
        rw [hv6]
        (repeat' (first | (with_reducible exact HB6.out) | (with_reducible exact Below.refl _ _) | (with_reducible refine below_drewN _ ?_) | (with_reducible refine Below.drew ?_) | (with_reducible refine Below.setCell ?_ (by first | (simp; done) | omega) _) | (with_reducible refine Below.alloc ?_ (by have := HB6.out.size; simp; omega) _)))
      clear y0_ y1_ y2_ yf0_ yf1_ yf2_ yn_ ym_ yl_ j0_ j1_ j2_ j3_ j4_ j5_ jf0_ jf1_ jf2_ jf3_ jf4_ jf5_ jn_ jm_ jl_ o0_ o1_ o2_ o3_ o4_ of0_ of1_ of2_ of3_ of4_ on_ om_ ol_ p0_ p1_ p2_ p3_ p4_ pf0_ pf1_ pf2_ pf3_ pf4_ pn_ pm_ pl_ e0_ e1_ e2_ e3_ e4_ e5_ ef0_ ef1_ ef2_ ef3_ ef4_ ef5_ en_ em_ el_
      clear hv6 Hy6 Hj6 Ho6 Hp6 He6 HB6
      refine (LV.out _).mono ?_
      rintro e w7 ⟨rfl, bb⟩
      have Hy7 := Lib.hid (blk_call bb Xy)
      have Hj7 := Lib.hid (blk_call bb Xj)
      have Ho7 := Lib.hid (blk_call bb Xo)
      have Hp7 := Lib.hid (blk_call bb Xp)
      have He7 := Lib.hid (blk_call bb Xe)
      have HB7 := Lib.hid (bel_onto XB bb XB.size)
      clear Xy Xj Xo Xp Xe XB bb
      obtain ⟨y0_, y1_, y2_, yf0_, yf1_, yf2_⟩ := at3 Hy7.out
      have yn_ := ne_blk Hy7.out
      have ym_ := Ne.symm (a := By) yn_
      have yl_ := lt_blk Hy7.out
      obtain ⟨j0_, j1_, j2_, j3_, j4_, j5_, jf0_, jf1_, jf2_, jf3_, jf4_, jf5_⟩ := at6 Hj7.out
      have jn_ := ne_blk Hj7.out
      have jm_ := Ne.symm (a := Bj) jn_
      have jl_ := lt_blk Hj7.out
      obtain ⟨o0_, o1_, o2_, o3_, o4_, of0_, of1_, of2_, of3_, of4_⟩ := at5 Ho7.out
      have on_ := ne_blk Ho7.out
      have om_ := Ne.symm (a := Bo) on_
      have ol_ := lt_blk Ho7.out
      obtain ⟨p0_, p1_, p2_, p3_, p4_, pf0_, pf1_, pf2_, pf3_, pf4_⟩ := at5 Hp7.out
      have pn_ := ne_blk Hp7.out
      have pm_ := Ne.symm (a := Bp) pn_
      have pl_ := lt_blk Hp7.out
      obtain ⟨e0_, e1_, e2_, e3_, e4_, e5_, ef0_, ef1_, ef2_, ef3_, ef4_, ef5_⟩ := at6 He7.out
      have en_ := ne_blk He7.out
      have em_ := Ne.symm (a := Be) en_
      have el_ := lt_blk He7.out
      clear y0_ y1_ y2_ yf0_ yf1_ yf2_ yn_ ym_ yl_ j0_ j1_ j2_ j3_ j4_ j5_ jf0_ jf1_ jf2_ jf3_ jf4_ jf5_ jn_ jm_ jl_ o0_ o1_ o2_ o3_ o4_ of0_ of1_ of2_ of3_ of4_ on_ om_ ol_ p0_ p1_ p2_ p3_ p4_ pf0_ pf1_ pf2_ pf3_ pf4_ pn_ pm_ pl_ e0_ e1_ e2_ e3_ e4_ e5_ ef0_ ef1_ ef2_ ef3_ ef4_ ef5_ en_ em_ el_
      go_wp2
      go_ret
      exact ⟨rfl, HB7.out⟩
    · go_wp2_with fail
      refine cl_gen ?_
      intro v5 hv5
      have Xy : v5.heap[By]? = some (.cells #[.int .u64 y, .int .u64 k, .int .i64 h] 70 (0, 0)) := by
        rw [hv5]
        (repeat' (first | (with_reducible exact Hy5.out) | (with_reducible exact heap_alloc_new _ _) | (with_reducible exact blk_new (by first | (simp; done) | omega)) | (with_reducible refine blk_drew ?_) | (with_reducible refine blk_drewM ?_) | (with_reducible apply put3_0) | (with_reducible apply put3_1) | (with_reducible apply put3_2) | (with_reducible refine blk_else (by omega) ?_) | (with_reducible refine blk_old ?_)))
      have Xj : v5.heap[Bj]? = some (.cells #[.int .u64 s, .int .u64 q, .int .u64 m, .int .u64 g, .int .u64 c, .int .u64 d] 59 (0, 0)) := by
        rw [hv5]
        (repeat' (first | (with_reducible exact Hj5.out) | (with_reducible exact heap_alloc_new _ _) | (with_reducible exact blk_new (by first | (simp; done) | omega)) | (with_reducible refine blk_drew ?_) | (with_reducible refine blk_drewM ?_) | (with_reducible apply put6_0) | (with_reducible apply put6_1) | (with_reducible apply put6_2) | (with_reducible apply put6_3) | (with_reducible apply put6_4) | (with_reducible apply put6_5) | (with_reducible refine blk_else (by omega) ?_) | (with_reducible refine blk_old ?_)))
      have Xo : v5.heap[Bo]? = some (.cells #[.int .u64 r, .int .u64 n, .int .u64 f, .int .u64 a, .int .u64 b] 57 (0, 0)) := by
        rw [hv5]
        (repeat' (first | (with_reducible exact Ho5.out) | (with_reducible exact heap_alloc_new _ _) | (with_reducible exact blk_new (by first | (simp; done) | omega)) | (with_reducible refine blk_drew ?_) | (with_reducible refine blk_drewM ?_) | (with_reducible apply put5_0) | (with_reducible apply put5_1) | (with_reducible apply put5_2) | (with_reducible apply put5_3) | (with_reducible apply put5_4) | (with_reducible refine blk_else (by omega) ?_) | (with_reducible refine blk_old ?_)))
      have Xp : v5.heap[Bp]? = some (.cells #[.int .u64 r, .int .u64 n, .int .u64 f, .int .u64 a, .int .u64 b] 61 (0, 0)) := by
        rw [hv5]
        (repeat' (first | (with_reducible exact Hp5.out) | (with_reducible exact heap_alloc_new _ _) | (with_reducible exact blk_new (by first | (simp; done) | omega)) | (with_reducible refine blk_drew ?_) | (with_reducible refine blk_drewM ?_) | (with_reducible apply put5_0) | (with_reducible apply put5_1) | (with_reducible apply put5_2) | (with_reducible apply put5_3) | (with_reducible apply put5_4) | (with_reducible refine blk_else (by omega) ?_) | (with_reducible refine blk_old ?_)))
      have Xe : v5.heap[Be]? = some (.cells #[.int .u64 ts, .int .u64 tq, .int .u64 tn, .int .u64 tf, .int .u64 ta, .int .u64 tb] 65 (0, 0)) := by
        rw [hv5]
        (repeat' (first | (with_reducible exact He5.out) | (with_reducible exact heap_alloc_new _ _) | (with_reducible exact blk_new (by first | (simp; done) | omega)) | (with_reducible refine blk_drew ?_) | (with_reducible refine blk_drewM ?_) | (with_reducible apply put6_0) | (with_reducible apply put6_1) | (with_reducible apply put6_2) | (with_reducible apply put6_3) | (with_reducible apply put6_4) | (with_reducible apply put6_5) | (with_reducible refine blk_else (by omega) ?_) | (with_reducible refine blk_old ?_)))
      have XB : Below w.heap.size w v5 := by
        rw [hv5]
        (repeat' (first | (with_reducible exact HB5.out) | (with_reducible exact Below.refl _ _) | (with_reducible refine below_drewN _ ?_) | (with_reducible refine Below.drew ?_) | (with_reducible refine Below.setCell ?_ (by first | (simp; done) | omega) _) | (with_reducible refine Below.alloc ?_ (by have := HB5.out.size; simp; omega) _)))
      clear y0_ y1_ y2_ yf0_ yf1_ yf2_ yn_ ym_ yl_ j0_ j1_ j2_ j3_ j4_ j5_ jf0_ jf1_ jf2_ jf3_ jf4_ jf5_ jn_ jm_ jl_ o0_ o1_ o2_ o3_ o4_ of0_ of1_ of2_ of3_ of4_ on_ om_ ol_ p0_ p1_ p2_ p3_ p4_ pf0_ pf1_ pf2_ pf3_ pf4_ pn_ pm_ pl_ e0_ e1_ e2_ e3_ e4_ e5_ ef0_ ef1_ ef2_ ef3_ ef4_ ef5_ en_ em_ el_
      clear hv5 Hy5 Hj5 Ho5 Hp5 He5 HB5
      refine (M2.out _).mono ?_
      rintro e w6 ⟨rfl, bb⟩
      have Hy6 := Lib.hid (blk_call bb Xy)
      have Hj6 := Lib.hid (blk_call bb Xj)
      have Ho6 := Lib.hid (blk_call bb Xo)
      have Hp6 := Lib.hid (blk_call bb Xp)
      have He6 := Lib.hid (blk_call bb Xe)
      have HB6 := Lib.hid (bel_onto XB bb XB.size)
      clear Xy Xj Xo Xp Xe XB bb
      obtain ⟨y0_, y1_, y2_, yf0_, yf1_, yf2_⟩ := at3 Hy6.out
      have yn_ := ne_blk Hy6.out
      have ym_ := Ne.symm (a := By) yn_
      have yl_ := lt_blk Hy6.out
      obtain ⟨j0_, j1_, j2_, j3_, j4_, j5_, jf0_, jf1_, jf2_, jf3_, jf4_, jf5_⟩ := at6 Hj6.out
      have jn_ := ne_blk Hj6.out
      have jm_ := Ne.symm (a := Bj) jn_
      have jl_ := lt_blk Hj6.out
      obtain ⟨o0_, o1_, o2_, o3_, o4_, of0_, of1_, of2_, of3_, of4_⟩ := at5 Ho6.out
      have on_ := ne_blk Ho6.out
      have om_ := Ne.symm (a := Bo) on_
      have ol_ := lt_blk Ho6.out
      obtain ⟨p0_, p1_, p2_, p3_, p4_, pf0_, pf1_, pf2_, pf3_, pf4_⟩ := at5 Hp6.out
      have pn_ := ne_blk Hp6.out
      have pm_ := Ne.symm (a := Bp) pn_
      have pl_ := lt_blk Hp6.out
      obtain ⟨e0_, e1_, e2_, e3_, e4_, e5_, ef0_, ef1_, ef2_, ef3_, ef4_, ef5_⟩ := at6 He6.out
      have en_ := ne_blk He6.out
      have em_ := Ne.symm (a := Be) en_
      have el_ := lt_blk He6.out
      go_wp2_with fail
      refine cl_gen ?_
      intro v6 hv6
      have Xy : v6.heap[By]? = some (.cells #[.int .u64 y, .int .u64 k, .int .i64 h] 70 (0, 0)) := by
        rw [hv6]
        (repeat' (first | (with_reducible exact Hy6.out) | (with_reducible exact heap_alloc_new _ _) | (with_reducible exact blk_new (by first | (simp; done) | omega)) | (with_reducible refine blk_drew ?_) | (with_reducible refine blk_drewM ?_) | (with_reducible apply put3_0) | (with_reducible apply put3_1) | (with_reducible apply put3_2) | (with_reducible refine blk_else (by omega) ?_) | (with_reducible refine blk_old ?_)))
      have Xj : v6.heap[Bj]? = some (.cells #[.int .u64 s, .int .u64 q, .int .u64 m, .int .u64 g, .int .u64 c, .int .u64 d] 59 (0, 0)) := by
        rw [hv6]
        (repeat' (first | (with_reducible exact Hj6.out) | (with_reducible exact heap_alloc_new _ _) | (with_reducible exact blk_new (by first | (simp; done) | omega)) | (with_reducible refine blk_drew ?_) | (with_reducible refine blk_drewM ?_) | (with_reducible apply put6_0) | (with_reducible apply put6_1) | (with_reducible apply put6_2) | (with_reducible apply put6_3) | (with_reducible apply put6_4) | (with_reducible apply put6_5) | (with_reducible refine blk_else (by omega) ?_) | (with_reducible refine blk_old ?_)))
      have Xo : v6.heap[Bo]? = some (.cells #[.int .u64 r, .int .u64 n, .int .u64 f, .int .u64 a, .int .u64 b] 57 (0, 0)) := by
        rw [hv6]
        (repeat' (first | (with_reducible exact Ho6.out) | (with_reducible exact heap_alloc_new _ _) | (with_reducible exact blk_new (by first | (simp; done) | omega)) | (with_reducible refine blk_drew ?_) | (with_reducible refine blk_drewM ?_) | (with_reducible apply put5_0) | (with_reducible apply put5_1) | (with_reducible apply put5_2) | (with_reducible apply put5_3) | (with_reducible apply put5_4) | (with_reducible refine blk_else (by omega) ?_) | (with_reducible refine blk_old ?_)))
      have Xp : v6.heap[Bp]? = some (.cells #[.int .u64 r, .int .u64 n, .int .u64 f, .int .u64 a, .int .u64 b] 61 (0, 0)) := by
        rw [hv6]
        (repeat' (first | (with_reducible exact Hp6.out) | (with_reducible exact heap_alloc_new _ _) | (with_reducible exact blk_new (by first | (simp; done) | omega)) | (with_reducible refine blk_drew ?_) | (with_reducible refine blk_drewM ?_) | (with_reducible apply put5_0) | (with_reducible apply put5_1) | (with_reducible apply put5_2) | (with_reducible apply put5_3) | (with_reducible apply put5_4) | (with_reducible refine blk_else (by omega) ?_) | (with_reducible refine blk_old ?_)))
      have Xe : v6.heap[Be]? = some (.cells #[.int .u64 ts, .int .u64 tq, .int .u64 tn, .int .u64 tf, .int .u64 ta, .int .u64 tb] 65 (0, 0)) := by
        rw [hv6]
        (repeat' (first | (with_reducible exact He6.out) | (with_reducible exact heap_alloc_new _ _) | (with_reducible exact blk_new (by first | (simp; done) | omega)) | (with_reducible refine blk_drew ?_) | (with_reducible refine blk_drewM ?_) | (with_reducible apply put6_0) | (with_reducible apply put6_1) | (with_reducible apply put6_2) | (with_reducible apply put6_3) | (with_reducible apply put6_4) | (with_reducible apply put6_5) | (with_reducible refine blk_else (by omega) ?_) | (with_reducible refine blk_old ?_)))
      have XB : Below w.heap.size w v6 := by
        rw [hv6]
        (repeat' (first | (with_reducible exact HB6.out) | (with_reducible exact Below.refl _ _) | (with_reducible refine below_drewN _ ?_) | (with_reducible refine Below.drew ?_) | (with_reducible refine Below.setCell ?_ (by first | (simp; done) | omega) _) | (with_reducible refine Below.alloc ?_ (by have := HB6.out.size; simp; omega) _)))
      clear y0_ y1_ y2_ yf0_ yf1_ yf2_ yn_ ym_ yl_ j0_ j1_ j2_ j3_ j4_ j5_ jf0_ jf1_ jf2_ jf3_ jf4_ jf5_ jn_ jm_ jl_ o0_ o1_ o2_ o3_ o4_ of0_ of1_ of2_ of3_ of4_ on_ om_ ol_ p0_ p1_ p2_ p3_ p4_ pf0_ pf1_ pf2_ pf3_ pf4_ pn_ pm_ pl_ e0_ e1_ e2_ e3_ e4_ e5_ ef0_ ef1_ ef2_ ef3_ ef4_ ef5_ en_ em_ el_
      clear hv6 Hy6 Hj6 Ho6 Hp6 He6 HB6
      refine (LV.out _).mono ?_
      rintro e w7 ⟨rfl, bb⟩
      have Hy7 := Lib.hid (blk_call bb Xy)
      have Hj7 := Lib.hid (blk_call bb Xj)
      have Ho7 := Lib.hid (blk_call bb Xo)
      have Hp7 := Lib.hid (blk_call bb Xp)
      have He7 := Lib.hid (blk_call bb Xe)
      have HB7 := Lib.hid (bel_onto XB bb XB.size)
      clear Xy Xj Xo Xp Xe XB bb
      obtain ⟨y0_, y1_, y2_, yf0_, yf1_, yf2_⟩ := at3 Hy7.out
      have yn_ := ne_blk Hy7.out
      have ym_ := Ne.symm (a := By) yn_
      have yl_ := lt_blk Hy7.out
      obtain ⟨j0_, j1_, j2_, j3_, j4_, j5_, jf0_, jf1_, jf2_, jf3_, jf4_, jf5_⟩ := at6 Hj7.out
      have jn_ := ne_blk Hj7.out
      have jm_ := Ne.symm (a := Bj) jn_
      have jl_ := lt_blk Hj7.out
      obtain ⟨o0_, o1_, o2_, o3_, o4_, of0_, of1_, of2_, of3_, of4_⟩ := at5 Ho7.out
      have on_ := ne_blk Ho7.out
      have om_ := Ne.symm (a := Bo) on_
      have ol_ := lt_blk Ho7.out
      obtain ⟨p0_, p1_, p2_, p3_, p4_, pf0_, pf1_, pf2_, pf3_, pf4_⟩ := at5 Hp7.out
      have pn_ := ne_blk Hp7.out
      have pm_ := Ne.symm (a := Bp) pn_
      have pl_ := lt_blk Hp7.out
      obtain ⟨e0_, e1_, e2_, e3_, e4_, e5_, ef0_, ef1_, ef2_, ef3_, ef4_, ef5_⟩ := at6 He7.out
      have en_ := ne_blk He7.out
      have em_ := Ne.symm (a := Be) en_
      have el_ := lt_blk He7.out
      clear y0_ y1_ y2_ yf0_ yf1_ yf2_ yn_ ym_ yl_ j0_ j1_ j2_ j3_ j4_ j5_ jf0_ jf1_ jf2_ jf3_ jf4_ jf5_ jn_ jm_ jl_ o0_ o1_ o2_ o3_ o4_ of0_ of1_ of2_ of3_ of4_ on_ om_ ol_ p0_ p1_ p2_ p3_ p4_ pf0_ pf1_ pf2_ pf3_ pf4_ pn_ pm_ pl_ e0_ e1_ e2_ e3_ e4_ e5_ ef0_ ef1_ ef2_ ef3_ ef4_ ef5_ en_ em_ el_
      go_wp2
      go_ret
      exact ⟨rfl, HB7.out⟩
    · go_wp2_with fail
      refine cl_gen ?_
      intro v5 hv5
      have Xy : v5.heap[By]? = some (.cells #[.int .u64 y, .int .u64 k, .int .i64 h] 70 (0, 0)) := by
        rw [hv5]
        (repeat' (first | (with_reducible exact Hy5.out) | (with_reducible exact heap_alloc_new _ _) | (with_reducible exact blk_new (by first | (simp; done) | omega)) | (with_reducible refine blk_drew ?_) | (with_reducible refine blk_drewM ?_) | (with_reducible apply put3_0) | (with_reducible apply put3_1) | (with_reducible apply put3_2) | (with_reducible refine blk_else (by omega) ?_) | (with_reducible refine blk_old ?_)))
      have Xj : v5.heap[Bj]? = some (.cells #[.int .u64 s, .int .u64 q, .int .u64 m, .int .u64 g, .int .u64 c, .int .u64 d] 59 (0, 0)) := by
        rw [hv5]
        (repeat' (first | (with_reducible exact Hj5.out) | (with_reducible exact heap_alloc_new _ _) | (with_reducible exact blk_new (by first | (simp; done) | omega)) | (with_reducible refine blk_drew ?_) | (with_reducible refine blk_drewM ?_) | (with_reducible apply put6_0) | (with_reducible apply put6_1) | (with_reducible apply put6_2) | (with_reducible apply put6_3) | (with_reducible apply put6_4) | (with_reducible apply put6_5) | (with_reducible refine blk_else (by omega) ?_) | (with_reducible refine blk_old ?_)))
      have Xo : v5.heap[Bo]? = some (.cells #[.int .u64 r, .int .u64 n, .int .u64 f, .int .u64 a, .int .u64 b] 57 (0, 0)) := by
        rw [hv5]
        (repeat' (first | (with_reducible exact Ho5.out) | (with_reducible exact heap_alloc_new _ _) | (with_reducible exact blk_new (by first | (simp; done) | omega)) | (with_reducible refine blk_drew ?_) | (with_reducible refine blk_drewM ?_) | (with_reducible apply put5_0) | (with_reducible apply put5_1) | (with_reducible apply put5_2) | (with_reducible apply put5_3) | (with_reducible apply put5_4) | (with_reducible refine blk_else (by omega) ?_) | (with_reducible refine blk_old ?_)))
      have Xp : v5.heap[Bp]? = some (.cells #[.int .u64 r, .int .u64 n, .int .u64 f, .int .u64 a, .int .u64 b] 61 (0, 0)) := by
        rw [hv5]
        (repeat' (first | (with_reducible exact Hp5.out) | (with_reducible exact heap_alloc_new _ _) | (with_reducible exact blk_new (by first | (simp; done) | omega)) | (with_reducible refine blk_drew ?_) | (with_reducible refine blk_drewM ?_) | (with_reducible apply put5_0) | (with_reducible apply put5_1) | (with_reducible apply put5_2) | (with_reducible apply put5_3) | (with_reducible apply put5_4) | (with_reducible refine blk_else (by omega) ?_) | (with_reducible refine blk_old ?_)))
      have Xe : v5.heap[Be]? = some (.cells #[.int .u64 s, .int .u64 q, .int .u64 m, .int .u64 g, .int .u64 c, .int .u64 d] 65 (0, 0)) := by
        rw [hv5]
        (repeat' (first | (with_reducible exact He5.out) | (with_reducible exact heap_alloc_new _ _) | (with_reducible exact blk_new (by first | (simp; done) | omega)) | (with_reducible refine blk_drew ?_) | (with_reducible refine blk_drewM ?_) | (with_reducible apply put6_0) | (with_reducible apply put6_1) | (with_reducible apply put6_2) | (with_reducible apply put6_3) | (with_reducible apply put6_4) | (with_reducible apply put6_5) | (with_reducible refine blk_else (by omega) ?_) | (with_reducible refine blk_old ?_)))
      have XB : Below w.heap.size w v5 := by
        rw [hv5]
        (repeat' (first | (with_reducible exact HB5.out) | (with_reducible exact Below.refl _ _) | (with_reducible refine below_drewN _ ?_) | (with_reducible refine Below.drew ?_) | (with_reducible refine Below.setCell ?_ (by first | (simp; done) | omega) _) | (with_reducible refine Below.alloc ?_ (by have := HB5.out.size; simp; omega) _)))
      clear y0_ y1_ y2_ yf0_ yf1_ yf2_ yn_ ym_ yl_ j0_ j1_ j2_ j3_ j4_ j5_ jf0_ jf1_ jf2_ jf3_ jf4_ jf5_ jn_ jm_ jl_ o0_ o1_ o2_ o3_ o4_ of0_ of1_ of2_ of3_ of4_ on_ om_ ol_ p0_ p1_ p2_ p3_ p4_ pf0_ pf1_ pf2_ pf3_ pf4_ pn_ pm_ pl_ e0_ e1_ e2_ e3_ e4_ e5_ ef0_ ef1_ ef2_ ef3_ ef4_ ef5_ en_ em_ el_
      clear hv5 Hy5 Hj5 Ho5 Hp5 He5 HB5
      refine (M2.out _).mono ?_
      rintro e w6 ⟨rfl, bb⟩
      have Hy6 := Lib.hid (blk_call bb Xy)
      have Hj6 := Lib.hid (blk_call bb Xj)
      have Ho6 := Lib.hid (blk_call bb Xo)
      have Hp6 := Lib.hid (blk_call bb Xp)
      have He6 := Lib.hid (blk_call bb Xe)
      have HB6 := Lib.hid (bel_onto XB bb XB.size)
      clear Xy Xj Xo Xp Xe XB bb
      obtain ⟨y0_, y1_, y2_, yf0_, yf1_, yf2_⟩ := at3 Hy6.out
      have yn_ := ne_blk Hy6.out
      have ym_ := Ne.symm (a := By) yn_
      have yl_ := lt_blk Hy6.out
      obtain ⟨j0_, j1_, j2_, j3_, j4_, j5_, jf0_, jf1_, jf2_, jf3_, jf4_, jf5_⟩ := at6 Hj6.out
      have jn_ := ne_blk Hj6.out
      have jm_ := Ne.symm (a := Bj) jn_
      have jl_ := lt_blk Hj6.out
      obtain ⟨o0_, o1_, o2_, o3_, o4_, of0_, of1_, of2_, of3_, of4_⟩ := at5 Ho6.out
      have on_ := ne_blk Ho6.out
      have om_ := Ne.symm (a := Bo) on_
      have ol_ := lt_blk Ho6.out
      obtain ⟨p0_, p1_, p2_, p3_, p4_, pf0_, pf1_, pf2_, pf3_, pf4_⟩ := at5 Hp6.out
      have pn_ := ne_blk Hp6.out
      have pm_ := Ne.symm (a := Bp) pn_
      have pl_ := lt_blk Hp6.out
      obtain ⟨e0_, e1_, e2_, e3_, e4_, e5_, ef0_, ef1_, ef2_, ef3_, ef4_, ef5_⟩ := at6 He6.out
      have en_ := ne_blk He6.out
      have em_ := Ne.symm (a := Be) en_
      have el_ := lt_blk He6.out
      go_wp2_with fail
      refine cl_gen ?_
      intro v6 hv6
      have Xy : v6.heap[By]? = some (.cells #[.int .u64 y, .int .u64 k, .int .i64 h] 70 (0, 0)) := by
        rw [hv6]
        (repeat' (first | (with_reducible exact Hy6.out) | (with_reducible exact heap_alloc_new _ _) | (with_reducible exact blk_new (by first | (simp; done) | omega)) | (with_reducible refine blk_drew ?_) | (with_reducible refine blk_drewM ?_) | (with_reducible apply put3_0) | (with_reducible apply put3_1) | (with_reducible apply put3_2) | (with_reducible refine blk_else (by omega) ?_) | (with_reducible refine blk_old ?_)))
      have Xj : v6.heap[Bj]? = some (.cells #[.int .u64 s, .int .u64 q, .int .u64 m, .int .u64 g, .int .u64 c, .int .u64 d] 59 (0, 0)) := by
        rw [hv6]
        (repeat' (first | (with_reducible exact Hj6.out) | (with_reducible exact heap_alloc_new _ _) | (with_reducible exact blk_new (by first | (simp; done) | omega)) | (with_reducible refine blk_drew ?_) | (with_reducible refine blk_drewM ?_) | (with_reducible apply put6_0) | (with_reducible apply put6_1) | (with_reducible apply put6_2) | (with_reducible apply put6_3) | (with_reducible apply put6_4) | (with_reducible apply put6_5) | (with_reducible refine blk_else (by omega) ?_) | (with_reducible refine blk_old ?_)))
      have Xo : v6.heap[Bo]? = some (.cells #[.int .u64 r, .int .u64 n, .int .u64 f, .int .u64 a, .int .u64 b] 57 (0, 0)) := by
        rw [hv6]
        (repeat' (first | (with_reducible exact Ho6.out) | (with_reducible exact heap_alloc_new _ _) | (with_reducible exact blk_new (by first | (simp; done) | omega)) | (with_reducible refine blk_drew ?_) | (with_reducible refine blk_drewM ?_) | (with_reducible apply put5_0) | (with_reducible apply put5_1) | (with_reducible apply put5_2) | (with_reducible apply put5_3) | (with_reducible apply put5_4) | (with_reducible refine blk_else (by omega) ?_) | (with_reducible refine blk_old ?_)))
      have Xp : v6.heap[Bp]? = some (.cells #[.int .u64 r, .int .u64 n, .int .u64 f, .int .u64 a, .int .u64 b] 61 (0, 0)) := by
        rw [hv6]
        (repeat' (first | (with_reducible exact Hp6.out) | (with_reducible exact heap_alloc_new _ _) | (with_reducible exact blk_new (by first | (simp; done) | omega)) | (with_reducible refine blk_drew ?_) | (with_reducible refine blk_drewM ?_) | (with_reducible apply put5_0) | (with_reducible apply put5_1) | (with_reducible apply put5_2) | (with_reducible apply put5_3) | (with_reducible apply put5_4) | (with_reducible refine blk_else (by omega) ?_) | (with_reducible refine blk_old ?_)))
      have Xe : v6.heap[Be]? = some (.cells #[.int .u64 s, .int .u64 q, .int .u64 m, .int .u64 g, .int .u64 c, .int .u64 d] 65 (0, 0)) := by
        rw [hv6]
        (repeat' (first | (with_reducible exact He6.out) | (with_reducible exact heap_alloc_new _ _) | (with_reducible exact blk_new (by first | (simp; done) | omega)) | (with_reducible refine blk_drew ?_) | (with_reducible refine blk_drewM ?_) | (with_reducible apply put6_0) | (with_reducible apply put6_1) | (with_reducible apply put6_2) | (with_reducible apply put6_3) | (with_reducible apply put6_4) | (with_reducible apply put6_5) | (with_reducible refine blk_else (by omega) ?_) | (with_reducible refine blk_old ?_)))
      have XB : Below w.heap.size w v6 := by
        rw [hv6]
        (repeat' (first | (with_reducible exact HB6.out) | (with_reducible exact Below.refl _ _) | (with_reducible refine below_drewN _ ?_) | (with_reducible refine Below.drew ?_) | (with_reducible refine Below.setCell ?_ (by first | (simp; done) | omega) _) | (with_reducible refine Below.alloc ?_ (by have := HB6.out.size; simp; omega) _)))
      clear y0_ y1_ y2_ yf0_ yf1_ yf2_ yn_ ym_ yl_ j0_ j1_ j2_ j3_ j4_ j5_ jf0_ jf1_ jf2_ jf3_ jf4_ jf5_ jn_ jm_ jl_ o0_ o1_ o2_ o3_ o4_ of0_ of1_ of2_ of3_ of4_ on_ om_ ol_ p0_ p1_ p2_ p3_ p4_ pf0_ pf1_ pf2_ pf3_ pf4_ pn_ pm_ pl_ e0_ e1_ e2_ e3_ e4_ e5_ ef0_ ef1_ ef2_ ef3_ ef4_ ef5_ en_ em_ el_
      clear hv6 Hy6 Hj6 Ho6 Hp6 He6 HB6
      refine (LV.out _).mono ?_
      rintro e w7 ⟨rfl, bb⟩
      have Hy7 := Lib.hid (blk_call bb Xy)
      have Hj7 := Lib.hid (blk_call bb Xj)
      have Ho7 := Lib.hid (blk_call bb Xo)
      have Hp7 := Lib.hid (blk_call bb Xp)
      have He7 := Lib.hid (blk_call bb Xe)
      have HB7 := Lib.hid (bel_onto XB bb XB.size)
      clear Xy Xj Xo Xp Xe XB bb
      obtain ⟨y0_, y1_, y2_, yf0_, yf1_, yf2_⟩ := at3 Hy7.out
      have yn_ := ne_blk Hy7.out
      have ym_ := Ne.symm (a := By) yn_
      have yl_ := lt_blk Hy7.out
      obtain ⟨j0_, j1_, j2_, j3_, j4_, j5_, jf0_, jf1_, jf2_, jf3_, jf4_, jf5_⟩ := at6 Hj7.out
      have jn_ := ne_blk Hj7.out
      have jm_ := Ne.symm (a := Bj) jn_
      have jl_ := lt_blk Hj7.out
      obtain ⟨o0_, o1_, o2_, o3_, o4_, of0_, of1_, of2_, of3_, of4_⟩ := at5 Ho7.out
      have on_ := ne_blk Ho7.out
      have om_ := Ne.symm (a := Bo) on_
      have ol_ := lt_blk Ho7.out
      obtain ⟨p0_, p1_, p2_, p3_, p4_, pf0_, pf1_, pf2_, pf3_, pf4_⟩ := at5 Hp7.out
      have pn_ := ne_blk Hp7.out
      have pm_ := Ne.symm (a := Bp) pn_
      have pl_ := lt_blk Hp7.out
      obtain ⟨e0_, e1_, e2_, e3_, e4_, e5_, ef0_, ef1_, ef2_, ef3_, ef4_, ef5_⟩ := at6 He7.out
      have en_ := ne_blk He7.out
      have em_ := Ne.symm (a := Be) en_
      have el_ := lt_blk He7.out
      clear y0_ y1_ y2_ yf0_ yf1_ yf2_ yn_ ym_ yl_ j0_ j1_ j2_ j3_ j4_ j5_ jf0_ jf1_ jf2_ jf3_ jf4_ jf5_ jn_ jm_ jl_ o0_ o1_ o2_ o3_ o4_ of0_ of1_ of2_ of3_ of4_ on_ om_ ol_ p0_ p1_ p2_ p3_ p4_ pf0_ pf1_ pf2_ pf3_ pf4_ pn_ pm_ pl_ e0_ e1_ e2_ e3_ e4_ e5_ ef0_ ef1_ ef2_ ef3_ ef4_ ef5_ en_ em_ el_
      go_wp2
      go_ret
      exact ⟨rfl, HB7.out⟩
end Go.Proofs.Ytgmdhanbeafagaa
