/-
  The law on ticks of meters in two parts: true for any meters. No condition.
-/
import Derived.Test.YtgmdhanbeafagaaMt2a
import Derived.Test.YtgmdhanbeafagaaMt2b
import Derived.Test.YtgmdhanbeafagaaMt3
import Derived.Deep.DeepCutAuto
namespace Go.Proofs.Ytgmdhanbeafagaa
set_option linter.unusedVariables false
set_option linter.unusedSimpArgs false
open Go.ChangeShapes Go.WideShapes Go.ChangeAt Go.RowKit
attribute [local go_sem] alloc_drewN setCell_drewN

theorem blk_drewN {w : World} {k n : Nat} {x : Option Obj} (h : w.heap[k]? = x) : (w.drewN n).heap[k]? = x := h
theorem mo_wd {m : MO} (hm : m.wd) {x : Int} (hx : 0 ≤ x) : (m.tick x).wd := by
  obtain ⟨⟨r0, r1⟩, ⟨n0, n1⟩, ⟨f0, f1⟩, ⟨a0, a1⟩, b0, b1⟩ := hm
  unfold MO.tick
  split
  · rename_i h
    obtain ⟨-, h1, h2⟩ := h
    have p := Int.mul_nonneg r0 hx
    generalize m.r * x = P at *
    exact ⟨⟨r0, r1⟩, ⟨n0, n1⟩, ⟨f0, f1⟩, ⟨by show (0 : Int) ≤ _ + min _ _; omega, by show _ + min _ _ ≤ (18446744073709551615 : Int); omega⟩, by show (0 : Int) ≤ _ + min _ _; omega, by show _ + min _ _ ≤ (18446744073709551615 : Int); omega⟩
  · exact ⟨by decide, by decide, by decide, by decide, by decide⟩
theorem mt_wd {m : MT} (hm : m.wd) {x : Int} (hx : 0 ≤ x) : (m.tick x).wd := by
  obtain ⟨⟨r0, r1⟩, ⟨q0, q1⟩, ⟨n0, n1⟩, ⟨f0, f1⟩, ⟨a0, a1⟩, b0, b1⟩ := hm
  unfold MT.tick
  split
  · have p := Int.mul_nonneg r0 hx
    have p2 := Int.mul_nonneg q0 hx
    generalize m.s * x = P at *
    generalize m.q * x = Q at *
    exact ⟨⟨r0, r1⟩, ⟨q0, q1⟩, ⟨n0, n1⟩, ⟨f0, f1⟩, ⟨by show (0 : Int) ≤ min _ _; omega, by show min _ _ ≤ (18446744073709551615 : Int); omega⟩, by show (0 : Int) ≤ min _ _; omega, by show min _ _ ≤ (18446744073709551615 : Int); omega⟩
  · exact ⟨by decide, by decide, by decide, by decide, by decide, by decide⟩
theorem mo_two {m : MO} (h0 : 0 ≤ m.r) {x y : Int} (hx : 0 ≤ x) (hy : 0 ≤ y) : (m.tick x).tick y = m.tick (x + y) := by
  by_cases h : m.ok
  · obtain ⟨k, h1, h2⟩ := id h
    have p := Int.mul_nonneg h0 hx
    have p2 := Int.mul_nonneg h0 hy
    have e : m.tick x = ⟨m.r, m.n, m.f, m.a + min (m.r * x) (m.n - m.a), m.b + min (m.r * x - min (m.r * x) (m.n - m.a)) (m.f - m.b)⟩ := if_pos h
    have ok2 : MO.ok ⟨m.r, m.n, m.f, m.a + min (m.r * x) (m.n - m.a), m.b + min (m.r * x - min (m.r * x) (m.n - m.a)) (m.f - m.b)⟩ := ⟨k, by show m.a + min _ _ ≤ m.n; omega, by show m.b + min _ _ ≤ m.f; omega⟩
    rw [e, show m.tick (x + y) = _ from if_pos h, show MO.tick ⟨m.r, m.n, m.f, m.a + min (m.r * x) (m.n - m.a), m.b + min (m.r * x - min (m.r * x) (m.n - m.a)) (m.f - m.b)⟩ y = _ from if_pos ok2]
    dsimp only
    rw [Int.mul_add]
    generalize m.r * x = P at *
    generalize m.r * y = Q at *
    congr 1 <;> omega
  · rw [show m.tick x = ⟨0, 0, 0, 0, 0⟩ from if_neg h, show m.tick (x + y) = ⟨0, 0, 0, 0, 0⟩ from if_neg h]
    exact if_neg (fun k => absurd k.1 (by decide))
theorem mt_two {m : MT} (h0 : 0 ≤ m.s) (g0 : 0 ≤ m.q) {x y : Int} (hx : 0 ≤ x) (hy : 0 ≤ y) : (m.tick x).tick y = m.tick (x + y) := by
  by_cases h : m.ok
  · obtain ⟨k, h1, h2⟩ := id h
    have p := Int.mul_nonneg h0 hx
    have p2 := Int.mul_nonneg h0 hy
    have p3 := Int.mul_nonneg g0 hx
    have p4 := Int.mul_nonneg g0 hy
    have ok2 : MT.ok ⟨m.s, m.q, m.n, m.f, min (m.a + m.s * x) m.n, min (m.b + m.q * x) m.f⟩ := ⟨k, by show min _ m.n ≤ m.n; omega, by show min _ m.f ≤ m.f; omega⟩
    rw [show m.tick x = ⟨m.s, m.q, m.n, m.f, min (m.a + m.s * x) m.n, min (m.b + m.q * x) m.f⟩ from if_pos h, show m.tick (x + y) = _ from if_pos h, show MT.tick ⟨m.s, m.q, m.n, m.f, min (m.a + m.s * x) m.n, min (m.b + m.q * x) m.f⟩ y = _ from if_pos ok2]
    dsimp only
    rw [Int.mul_add, Int.mul_add]
    generalize m.s * x = P at *
    generalize m.s * y = Q at *
    generalize m.q * x = P2 at *
    generalize m.q * y = Q2 at *
    congr 1 <;> omega
  · rw [show m.tick x = ⟨0, 0, 0, 0, 0, 0⟩ from if_neg h, show m.tick (x + y) = ⟨0, 0, 0, 0, 0, 0⟩ from if_neg h]
    exact if_neg (fun k => absurd k.1 (by decide))
set_option maxRecDepth 100000 in
set_option maxHeartbeats 4000000 in
theorem walk_meterCut (r : Int) (r0 : 0 ≤ r) (r1 : r ≤ 18446744073709551615) (n : Int) (n0 : 0 ≤ n) (n1 : n ≤ 18446744073709551615) (f : Int) (f0 : 0 ≤ f) (f1 : f ≤ 18446744073709551615) (a : Int) (a0 : 0 ≤ a) (a1 : a ≤ 18446744073709551615) (b : Int) (b0 : 0 ≤ b) (b1 : b ≤ 18446744073709551615) (s : Int) (s0 : 0 ≤ s) (s1 : s ≤ 18446744073709551615) (q : Int) (q0 : 0 ≤ q) (q1 : q ≤ 18446744073709551615) (m : Int) (m0 : 0 ≤ m) (m1 : m ≤ 18446744073709551615) (g : Int) (g0 : 0 ≤ g) (g1 : g ≤ 18446744073709551615) (c : Int) (c0 : 0 ≤ c) (c1 : c ≤ 18446744073709551615) (d : Int) (d0 : 0 ≤ d) (d1 : d ≤ 18446744073709551615) (x : Int) (x0 : 0 ≤ x) (x1 : x ≤ 18446744073709551615) (y : Int) (y0 : 0 ≤ y) (y1 : y ≤ 18446744073709551615) (w : World) :
    Calls Try.prog 10 #[.agg #[.int .u64 r, .int .u64 n, .int .u64 f, .int .u64 a, .int .u64 b], .agg #[.int .u64 s, .int .u64 q, .int .u64 m, .int .u64 g, .int .u64 c, .int .u64 d], .agg #[.int .u64 x, .int .u64 y]] w fun e w' => e = .returned (.bool true) ∧ Below w.heap.size w w' := by
  have LV := Lib.hid (fun W => lives21 W)
  have hm : Try.prog.eqGuardType Try.prog.depth 61 = false := by kernel_rfl
  have hm2 : Try.prog.eqGuardType Try.prog.depth 65 = false := by kernel_rfl
  have ho : MO.wd ⟨r, n, f, a, b⟩ := ⟨⟨r0, r1⟩, ⟨n0, n1⟩, ⟨f0, f1⟩, ⟨a0, a1⟩, b0, b1⟩
  have ht : MT.wd ⟨s, q, m, g, c, d⟩ := ⟨⟨s0, s1⟩, ⟨q0, q1⟩, ⟨m0, m1⟩, ⟨g0, g1⟩, ⟨c0, c1⟩, d0, d1⟩
  have TO := mo_two (m := ⟨r, n, f, a, b⟩) r0 (x := x / 2) (y := y / 2) (by omega) (by omega)
  have TT := mt_two (m := ⟨s, q, m, g, c, d⟩) s0 q0 (x := x / 2) (y := y / 2) (by omega) (by omega)
  have WO := mo_wd ho (x := x / 2) (by omega)
  have WT := mt_wd ht (x := x / 2) (by omega)
  have A1 := Lib.hid (fun W => mo_tick ⟨r, n, f, a, b⟩ ho (x / 2) (by omega) (by omega) W)
  have A2 := Lib.hid (fun W => mo_tick (MO.tick ⟨r, n, f, a, b⟩ (x / 2)) WO (y / 2) (by omega) (by omega) W)
  have A3 := Lib.hid (fun W => mo_tick ⟨r, n, f, a, b⟩ ho (x / 2 + y / 2) (by omega) (by omega) W)
  have C1 := Lib.hid (fun W => mt_tick ⟨s, q, m, g, c, d⟩ ht (x / 2) (by omega) (by omega) W)
  have C2 := Lib.hid (fun W => mt_tick (MT.tick ⟨s, q, m, g, c, d⟩ (x / 2)) WT (y / 2) (by omega) (by omega) W)
  have C3 := Lib.hid (fun W => mt_tick ⟨s, q, m, g, c, d⟩ ht (x / 2 + y / 2) (by omega) (by omega) W)
  rw [← TO] at A3
  rw [← TT] at C3
  generalize MO.tick ⟨r, n, f, a, b⟩ (x / 2) = p1 at *
  generalize MO.tick p1 (y / 2) = p2 at *
  generalize MT.tick ⟨s, q, m, g, c, d⟩ (x / 2) = t1 at *
  generalize MT.tick t1 (y / 2) = t2 at *
  obtain ⟨pr, pn, pf, pa, pb⟩ := p1
  obtain ⟨pr2, pn2, pf2, pa2, pb2⟩ := p2
  obtain ⟨ts, tq, tn, tf, ta, tb⟩ := t1
  obtain ⟨ts2, tq2, tn2, tf2, ta2, tb2⟩ := t2
  simp only [mo_val, mt_val] at A1 A2 A3 C1 C2 C3
  have hw : IntKind.u64.wrap (x / 2 + y / 2) = x / 2 + y / 2 := by rw [IntKind.wrap_u64]; omega
  clear TO TT WO WT ho ht
  go_enter Try.func10, Try.ntmps10
  go_wp2
  refine wp_genc ?_
  intro v0 hv0
  have XB : Below w.heap.size w v0 := by
    rw [hv0]
    (repeat' (first | (with_reducible exact Below.refl _ _) | (with_reducible assumption) | (with_reducible refine below_drewN _ ?_) | (with_reducible refine Below.drew ?_) | (with_reducible refine Below.setCell ?_ (by simp) _) | (with_reducible refine Below.alloc ?_ (by simp; try omega) _)))
  have Xo : v0.heap[w.heap.size]? = some (.cells #[.int .u64 r, .int .u64 n, .int .u64 f, .int .u64 a, .int .u64 b] 57 (0, 0)) := by
    rw [hv0]
    (repeat' (first | (with_reducible exact heap_alloc_new _ _) | (with_reducible exact blk_new (by first | (simp; done) | omega)) | (with_reducible refine blk_drew ?_) | (with_reducible apply put1_0) | (with_reducible apply put2_0) | (with_reducible apply put2_1) | (with_reducible apply put3_0) | (with_reducible apply put3_1) | (with_reducible apply put3_2) | (with_reducible apply put4_0) | (with_reducible apply put4_1) | (with_reducible apply put4_2) | (with_reducible apply put4_3) | (with_reducible apply put5_0) | (with_reducible apply put5_1) | (with_reducible apply put5_2) | (with_reducible apply put5_3) | (with_reducible apply put5_4) | (with_reducible apply put6_0) | (with_reducible apply put6_1) | (with_reducible apply put6_2) | (with_reducible apply put6_3) | (with_reducible apply put6_4) | (with_reducible apply put6_5) | (with_reducible refine blk_else (by omega) ?_) | (with_reducible refine blk_old ?_)))
  have Xj : v0.heap[w.heap.size + 1]? = some (.cells #[.int .u64 s, .int .u64 q, .int .u64 m, .int .u64 g, .int .u64 c, .int .u64 d] 59 (0, 0)) := by
    rw [hv0]
    (repeat' (first | (with_reducible exact heap_alloc_new _ _) | (with_reducible exact blk_new (by first | (simp; done) | omega)) | (with_reducible refine blk_drew ?_) | (with_reducible apply put1_0) | (with_reducible apply put2_0) | (with_reducible apply put2_1) | (with_reducible apply put3_0) | (with_reducible apply put3_1) | (with_reducible apply put3_2) | (with_reducible apply put4_0) | (with_reducible apply put4_1) | (with_reducible apply put4_2) | (with_reducible apply put4_3) | (with_reducible apply put5_0) | (with_reducible apply put5_1) | (with_reducible apply put5_2) | (with_reducible apply put5_3) | (with_reducible apply put5_4) | (with_reducible apply put6_0) | (with_reducible apply put6_1) | (with_reducible apply put6_2) | (with_reducible apply put6_3) | (with_reducible apply put6_4) | (with_reducible apply put6_5) | (with_reducible refine blk_else (by omega) ?_) | (with_reducible refine blk_old ?_)))
  have Xy : v0.heap[w.heap.size + 1 + 1]? = some (.cells #[.int .u64 x, .int .u64 y] 87 (0, 0)) := by
    rw [hv0]
    (repeat' (first | (with_reducible exact heap_alloc_new _ _) | (with_reducible exact blk_new (by first | (simp; done) | omega)) | (with_reducible refine blk_drew ?_) | (with_reducible apply put1_0) | (with_reducible apply put2_0) | (with_reducible apply put2_1) | (with_reducible apply put3_0) | (with_reducible apply put3_1) | (with_reducible apply put3_2) | (with_reducible apply put4_0) | (with_reducible apply put4_1) | (with_reducible apply put4_2) | (with_reducible apply put4_3) | (with_reducible apply put5_0) | (with_reducible apply put5_1) | (with_reducible apply put5_2) | (with_reducible apply put5_3) | (with_reducible apply put5_4) | (with_reducible apply put6_0) | (with_reducible apply put6_1) | (with_reducible apply put6_2) | (with_reducible apply put6_3) | (with_reducible apply put6_4) | (with_reducible apply put6_5) | (with_reducible refine blk_else (by omega) ?_) | (with_reducible refine blk_old ?_)))
  obtain ⟨By, hBy⟩ : ∃ x, x = w.heap.size + 1 + 1 := ⟨_, rfl⟩
  rw [← hBy] at Xy
  try rw [← hBy]
  have ley : w.heap.size ≤ By := by omega
  obtain ⟨Bj, hBj⟩ : ∃ x, x = w.heap.size + 1 := ⟨_, rfl⟩
  rw [← hBj] at Xj
  try rw [← hBj]
  have njy : ¬ Bj = By := by omega
  have nyj : ¬ By = Bj := fun h => njy h.symm
  have lej : w.heap.size ≤ Bj := by omega
  obtain ⟨Bo, hBo⟩ : ∃ x, x = w.heap.size := ⟨_, rfl⟩
  rw [← hBo] at Xo
  try rw [← hBo]
  have noy : ¬ Bo = By := by omega
  have nyo : ¬ By = Bo := fun h => noy h.symm
  have noj : ¬ Bo = Bj := by omega
  have njo : ¬ Bj = Bo := fun h => noj h.symm
  have leo : w.heap.size ≤ Bo := by omega
  clear hBo hBj hBy
  clear hv0
  have Hy1 := Lib.hid Xy
  have Hj1 := Lib.hid Xj
  have Ho1 := Lib.hid Xo
  have HB1 := Lib.hid XB
  clear Xy Xj Xo XB
  obtain ⟨y0_, y1_, yf0_, yf1_⟩ := at2 Hy1.out
  have yn_ := ne_blk Hy1.out
  have ym_ := Ne.symm (a := By) yn_
  have yl_ := lt_blk Hy1.out
  obtain ⟨j0_, j1_, j2_, j3_, j4_, j5_, jf0_, jf1_, jf2_, jf3_, jf4_, jf5_⟩ := at6 Hj1.out
  have jn_ := ne_blk Hj1.out
  have jm_ := Ne.symm (a := Bj) jn_
  have jl_ := lt_blk Hj1.out
  obtain ⟨o0_, o1_, o2_, o3_, o4_, of0_, of1_, of2_, of3_, of4_⟩ := at5 Ho1.out
  have on_ := ne_blk Ho1.out
  have om_ := Ne.symm (a := Bo) on_
  have ol_ := lt_blk Ho1.out
  go_quiet (fail)
  go_upto_region 3 with (fail)
  go_cut [9, 10] (fun e1 e2 wx => ∃ p q_, e1 = .pointer (some ⟨p, 0, none⟩) ∧ e2 = .pointer (some ⟨q_, 0, none⟩) ∧ wx.heap[p]? = some (.cells #[.int .u64 r, .int .u64 n, .int .u64 f, .int .u64 a, .int .u64 b] 61 (0, 0)) ∧ wx.heap[q_]? = some (.cells #[.int .u64 s, .int .u64 q, .int .u64 m, .int .u64 g, .int .u64 c, .int .u64 d] 65 (0, 0)) ∧ Below w.heap.size w wx)
  case first =>
    go_region
    all_goals go_wp2
    all_goals go_meet
    all_goals
      refine ⟨_, _, rfl, rfl, ?_, ?_, ?_⟩
      · (repeat' (first | (with_reducible exact heap_alloc_new _ _) | (with_reducible exact blk_new (by first | (simp; done) | omega)) | (with_reducible refine blk_drew ?_) | (with_reducible refine blk_drewN ?_) | (with_reducible apply put1_0) | (with_reducible apply put2_0) | (with_reducible apply put2_1) | (with_reducible apply put3_0) | (with_reducible apply put3_1) | (with_reducible apply put3_2) | (with_reducible apply put4_0) | (with_reducible apply put4_1) | (with_reducible apply put4_2) | (with_reducible apply put4_3) | (with_reducible apply put5_0) | (with_reducible apply put5_1) | (with_reducible apply put5_2) | (with_reducible apply put5_3) | (with_reducible apply put5_4) | (with_reducible apply put6_0) | (with_reducible apply put6_1) | (with_reducible apply put6_2) | (with_reducible apply put6_3) | (with_reducible apply put6_4) | (with_reducible apply put6_5) | (with_reducible refine blk_else (by omega) ?_) | (with_reducible refine blk_old ?_)))
      · (repeat' (first | (with_reducible exact heap_alloc_new _ _) | (with_reducible exact blk_new (by first | (simp; done) | omega)) | (with_reducible refine blk_drew ?_) | (with_reducible refine blk_drewN ?_) | (with_reducible apply put1_0) | (with_reducible apply put2_0) | (with_reducible apply put2_1) | (with_reducible apply put3_0) | (with_reducible apply put3_1) | (with_reducible apply put3_2) | (with_reducible apply put4_0) | (with_reducible apply put4_1) | (with_reducible apply put4_2) | (with_reducible apply put4_3) | (with_reducible apply put5_0) | (with_reducible apply put5_1) | (with_reducible apply put5_2) | (with_reducible apply put5_3) | (with_reducible apply put5_4) | (with_reducible apply put6_0) | (with_reducible apply put6_1) | (with_reducible apply put6_2) | (with_reducible apply put6_3) | (with_reducible apply put6_4) | (with_reducible apply put6_5) | (with_reducible refine blk_else (by omega) ?_) | (with_reducible refine blk_old ?_)))
      · (repeat' (first | (with_reducible exact HB1.out) | (with_reducible exact Below.refl _ _) | (with_reducible refine below_drewN _ ?_) | (with_reducible refine Below.drew ?_) | (with_reducible refine Below.setCell ?_ (by first | (simp; done) | omega) _) | (with_reducible refine Below.alloc ?_ (by have := HB1.out.size; simp; omega) _)))
  obtain ⟨p, q_, rfl, rfl, hp, hq, bb⟩ := hcut
  generalize wc = wy at *
  have Ho7 := Lib.hid hp; have Hj7 := Lib.hid hq; have HB7 := Lib.hid bb
  clear hp hq bb y0_ y1_ yf0_ yf1_ yn_ ym_ yl_ j0_ j1_ j2_ j3_ j4_ j5_ jf0_ jf1_ jf2_ jf3_ jf4_ jf5_ jn_ jm_ jl_ o0_ o1_ o2_ o3_ o4_ of0_ of1_ of2_ of3_ of4_ on_ om_ ol_
  obtain ⟨o0_, o1_, o2_, o3_, o4_, of0_, of1_, of2_, of3_, of4_⟩ := at5 Ho7.out
  have on_ := ne_blk Ho7.out
  have om_ := Ne.symm (a := p) on_
  have ol_ := lt_blk Ho7.out
  obtain ⟨j0_, j1_, j2_, j3_, j4_, j5_, jf0_, jf1_, jf2_, jf3_, jf4_, jf5_⟩ := at6 Hj7.out
  have jn_ := ne_blk Hj7.out
  have jm_ := Ne.symm (a := q_) jn_
  have jl_ := lt_blk Hj7.out
  go_wp2
  have S0 := Lib.hid (fun v (hv : Below wy.heap.size wy v) => (⟨cell_blk (blk_call hv Ho7.out) 0 rfl, cell_blk (blk_call hv Ho7.out) 1 rfl, cell_blk (blk_call hv Ho7.out) 2 rfl, cell_blk (blk_call hv Ho7.out) 3 rfl, cell_blk (blk_call hv Ho7.out) 4 rfl, cell_blk (blk_call hv Hj7.out) 0 rfl, cell_blk (blk_call hv Hj7.out) 1 rfl, cell_blk (blk_call hv Hj7.out) 2 rfl, cell_blk (blk_call hv Hj7.out) 3 rfl, cell_blk (blk_call hv Hj7.out) 4 rfl, cell_blk (blk_call hv Hj7.out) 5 rfl, bel_onto HB7.out hv HB7.out.size⟩ : v.cell? ⟨p, 0, none⟩ = some (.int .u64 r) ∧ v.cell? ⟨p, 1, none⟩ = some (.int .u64 n) ∧ v.cell? ⟨p, 2, none⟩ = some (.int .u64 f) ∧ v.cell? ⟨p, 3, none⟩ = some (.int .u64 a) ∧ v.cell? ⟨p, 4, none⟩ = some (.int .u64 b) ∧ v.cell? ⟨q_, 0, none⟩ = some (.int .u64 s) ∧ v.cell? ⟨q_, 1, none⟩ = some (.int .u64 q) ∧ v.cell? ⟨q_, 2, none⟩ = some (.int .u64 m) ∧ v.cell? ⟨q_, 3, none⟩ = some (.int .u64 g) ∧ v.cell? ⟨q_, 4, none⟩ = some (.int .u64 c) ∧ v.cell? ⟨q_, 5, none⟩ = some (.int .u64 d) ∧ Below w.heap.size w v))
  go_region_held3 (fun v => v.cell? ⟨p, 0, none⟩ = some (.int .u64 r) ∧ v.cell? ⟨p, 1, none⟩ = some (.int .u64 n) ∧ v.cell? ⟨p, 2, none⟩ = some (.int .u64 f) ∧ v.cell? ⟨p, 3, none⟩ = some (.int .u64 a) ∧ v.cell? ⟨p, 4, none⟩ = some (.int .u64 b) ∧ v.cell? ⟨q_, 0, none⟩ = some (.int .u64 s) ∧ v.cell? ⟨q_, 1, none⟩ = some (.int .u64 q) ∧ v.cell? ⟨q_, 2, none⟩ = some (.int .u64 m) ∧ v.cell? ⟨q_, 3, none⟩ = some (.int .u64 g) ∧ v.cell? ⟨q_, 4, none⟩ = some (.int .u64 c) ∧ v.cell? ⟨q_, 5, none⟩ = some (.int .u64 d) ∧ Below w.heap.size w v)
    (exact S0.out _ (by repeat' (first | (with_reducible exact Below.refl _ _) | (with_reducible exact (Below.refl _ _).drew) | (with_reducible refine bel_call (by with_reducible assumption) ?_ (Nat.le_refl _)))))
    (first
      | (go_at_call 31; with_reducible refine (LV.out _).mono ?_; rintro e u0 ⟨rfl, h0_⟩)
      | (go_at_call 36; with_reducible refine (A1.out _).mono ?_; rintro e u1 ⟨rfl, h1_⟩)
      | (go_at_call 36; with_reducible refine (A2.out _).mono ?_; rintro e u2 ⟨rfl, h2_⟩)
      | (go_at_call 36; with_reducible refine (A3.out _).mono ?_; rintro e u3 ⟨rfl, h3_⟩)
      | (go_at_call 37; with_reducible refine (C1.out _).mono ?_; rintro e u4 ⟨rfl, h4_⟩)
      | (go_at_call 37; with_reducible refine (C2.out _).mono ?_; rintro e u5 ⟨rfl, h5_⟩)
      | (go_at_call 37; with_reducible refine (C3.out _).mono ?_; rintro e u6 ⟨rfl, h6_⟩)
      | fail)
  go_wp2
  go_ret
  refine ⟨rfl, ?_⟩
  (repeat' (first | (with_reducible exact HB7.out) | (with_reducible refine below_drewN _ ?_) | (with_reducible refine Below.drew ?_) | (with_reducible refine bel_call (by with_reducible assumption) ?_ (by have := HB7.out.size; omega)) | (with_reducible refine Below.alloc ?_ (by have := HB7.out.size; simp; omega) _)))
end Go.Proofs.Ytgmdhanbeafagaa
