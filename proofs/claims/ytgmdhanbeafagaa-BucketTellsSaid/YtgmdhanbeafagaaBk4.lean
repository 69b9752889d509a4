/-
  The law on ticks in two parts: true for any bucket. No condition.
-/
import Derived.Test.YtgmdhanbeafagaaBk3
namespace Go.Proofs.Ytgmdhanbeafagaa
set_option linter.unusedVariables false
set_option linter.unusedSimpArgs false
open Go.ChangeShapes Go.WideShapes Go.ChangeAt Go.RowKit
attribute [local go_sem] alloc_drewN setCell_drewN

theorem tick_wd {s : BK} (hs : s.wd) {x : Int} (hx : 0 ≤ x) : (s.tick x).wd := by
  obtain ⟨⟨r0, r1⟩, ⟨b0, b1⟩, t0, t1⟩ := hs
  unfold BK.tick
  split
  · have := Int.mul_nonneg r0 hx
    exact ⟨⟨r0, r1⟩, ⟨b0, b1⟩, by show (0:Int) ≤ min _ _; omega, by show min _ _ ≤ (18446744073709551615 : Int); omega⟩
  · exact ⟨by decide, by decide, by decide⟩
theorem tick_tick {s : BK} (h : s.ok) (h0 : 0 ≤ s.r) {x y : Int} (hx : 0 ≤ x) (hy : 0 ≤ y) : (s.tick x).tick y = s.tick (x + y) := by
  obtain ⟨a, b, c⟩ := h
  have p1 := Int.mul_nonneg h0 hx
  have p2 := Int.mul_nonneg h0 hy
  have e : s.tick x = ⟨s.r, s.b, min (s.t + s.r * x) s.b⟩ := by unfold BK.tick; rw [if_pos ⟨a, b, c⟩]
  have k : BK.ok ⟨s.r, s.b, min (s.t + s.r * x) s.b⟩ := ⟨a, b, by show min _ _ ≤ s.b; omega⟩
  rw [e]
  unfold BK.tick
  rw [if_pos k, if_pos ⟨a, b, c⟩]
  dsimp only
  rw [Int.mul_add]
  congr 1
  omega
theorem tick_none {s : BK} (h : s.ok) : s.tick 0 = s := by
  obtain ⟨a, b, c⟩ := h
  unfold BK.tick
  rw [if_pos ⟨a, b, c⟩, Int.mul_zero, Int.add_zero, show min s.t s.b = s.t by omega]
set_option maxRecDepth 100000 in
set_option maxHeartbeats 4000000 in
theorem walk_bucketCut (r : Int) (r0 : 0 ≤ r) (r1 : r ≤ 18446744073709551615) (b : Int) (b0 : 0 ≤ b) (b1 : b ≤ 18446744073709551615) (t : Int) (t0 : 0 ≤ t) (t1 : t ≤ 18446744073709551615) (x : Int) (x0 : 0 ≤ x) (x1 : x ≤ 18446744073709551615) (y : Int) (y0 : 0 ≤ y) (y1 : y ≤ 18446744073709551615) (w : World) :
    Calls Try.prog 5 #[.agg #[.int .u64 r, .int .u64 b, .int .u64 t], .int .u64 x, .int .u64 y] w fun e w' => e = .returned (.bool true) ∧ Below w.heap.size w w' := by
  have CM := Lib.hid (fun W => (bk_rcheck r b t W).mono fun e w' h => (⟨h.1, h.2 ▸ (Below.refl _ W).alloc (Nat.le_refl _) _⟩ : _ ∧ Below W.heap.size W w'))
  have LV := Lib.hid (fun W => lives20 W)
  have hm : Try.prog.eqGuardType Try.prog.depth 25 = false := by kernel_rfl
  by_cases hok : BK.ok ⟨r, b, t⟩
  · rw [bck_ok.2 hok] at CM
    have TT := tick_tick (s := ⟨r, b, t⟩) hok r0 (x := x / 2) (y := y / 2) (by omega) (by omega)
    have TW := tick_wd (s := ⟨r, b, t⟩) ⟨⟨r0, r1⟩, ⟨b0, b1⟩, t0, t1⟩ (x := x / 2) (by omega)
    have A1 := Lib.hid (fun W => bk_tick ⟨r, b, t⟩ ⟨⟨r0, r1⟩, ⟨b0, b1⟩, t0, t1⟩ (x / 2) (by omega) (by omega) W)
    have A3 := Lib.hid (fun W => bk_tick ⟨r, b, t⟩ ⟨⟨r0, r1⟩, ⟨b0, b1⟩, t0, t1⟩ (x / 2 + y / 2) (by omega) (by omega) W)
    have A4 := Lib.hid (fun W => bk_tick ⟨r, b, t⟩ ⟨⟨r0, r1⟩, ⟨b0, b1⟩, t0, t1⟩ 0 (by omega) (by omega) W)
    have A2 := Lib.hid (fun W => bk_tick (BK.tick ⟨r, b, t⟩ (x / 2)) TW (y / 2) (by omega) (by omega) W)
    rw [← TT] at A3
    rw [tick_none hok] at A4
    generalize BK.tick ⟨r, b, t⟩ (x / 2) = p at *
    generalize BK.tick p (y / 2) = q at *
    obtain ⟨pr, pb, pt⟩ := p
    obtain ⟨qr, qb, qt⟩ := q
    simp only [vw] at A1 A2 A3 A4
    clear TT TW hok
    have hw : IntKind.u64.wrap (x / 2 + y / 2) = x / 2 + y / 2 := by rw [IntKind.wrap_u64]; omega
    go_enter Try.func5, Try.ntmps5
    go_wp2_with fail
    refine cl_gen ?_
    intro v0 hv0
    have XB : Below w.heap.size w v0 := by
      rw [hv0]
      (repeat' (first | exact Below.refl _ _ | (with_reducible assumption) | refine below_drewN _ ?_ | refine Below.drew ?_ | refine Below.setCell ?_ (by simp) _ | refine Below.alloc ?_ (by simp; try omega) _))
    have Xa : v0.heap[w.heap.size]? = some (.cells #[.int .u64 r, .int .u64 b, .int .u64 t] 24 (0, 0)) := by
      rw [hv0]
      (repeat' (first | (with_reducible exact heap_alloc_new _ _) | (with_reducible exact blk_new (by first | (simp; done) | omega)) | (with_reducible refine blk_drew ?_) | (with_reducible apply put1_0) | (with_reducible apply put2_0) | (with_reducible apply put2_1) | (with_reducible apply put3_0) | (with_reducible apply put3_1) | (with_reducible apply put3_2) | (with_reducible apply put4_0) | (with_reducible apply put4_1) | (with_reducible apply put4_2) | (with_reducible apply put4_3) | (with_reducible apply put5_0) | (with_reducible apply put5_1) | (with_reducible apply put5_2) | (with_reducible apply put5_3) | (with_reducible apply put5_4) | (with_reducible apply put6_0) | (with_reducible apply put6_1) | (with_reducible apply put6_2) | (with_reducible apply put6_3) | (with_reducible apply put6_4) | (with_reducible apply put6_5) | (with_reducible refine blk_else (by omega) ?_) | (with_reducible refine blk_old ?_)))
    have Xc : v0.heap[w.heap.size + 1]? = some (.cells #[.int .u64 r, .int .u64 b, .int .u64 t] 25 (0, 0)) := by
      rw [hv0]
      (repeat' (first | (with_reducible exact heap_alloc_new _ _) | (with_reducible exact blk_new (by first | (simp; done) | omega)) | (with_reducible refine blk_drew ?_) | (with_reducible apply put1_0) | (with_reducible apply put2_0) | (with_reducible apply put2_1) | (with_reducible apply put3_0) | (with_reducible apply put3_1) | (with_reducible apply put3_2) | (with_reducible apply put4_0) | (with_reducible apply put4_1) | (with_reducible apply put4_2) | (with_reducible apply put4_3) | (with_reducible apply put5_0) | (with_reducible apply put5_1) | (with_reducible apply put5_2) | (with_reducible apply put5_3) | (with_reducible apply put5_4) | (with_reducible apply put6_0) | (with_reducible apply put6_1) | (with_reducible apply put6_2) | (with_reducible apply put6_3) | (with_reducible apply put6_4) | (with_reducible apply put6_5) | (with_reducible refine blk_else (by omega) ?_) | (with_reducible refine blk_old ?_)))
    obtain ⟨Bc, hBc⟩ : ∃ x, x = w.heap.size + 1 := ⟨_, rfl⟩
    rw [← hBc] at Xc
    try rw [← hBc]
    have lec : w.heap.size ≤ Bc := by omega
    obtain ⟨Ba, hBa⟩ : ∃ x, x = w.heap.size := ⟨_, rfl⟩
    rw [← hBa] at Xa
    try rw [← hBa]
    have nac : ¬ Ba = Bc := by omega
    have nca : ¬ Bc = Ba := fun h => nac h.symm
    have lea : w.heap.size ≤ Ba := by omega
    clear hBa hBc
    clear hv0
    refine (CM.out _).mono ?_
    rintro e w1 ⟨rfl, bb⟩
    have Hc1 := Lib.hid (blk_call bb Xc)
    have Ha1 := Lib.hid (blk_call bb Xa)
    have HB1 := Lib.hid (bel_onto XB bb XB.size)
    clear Xc Xa XB bb
    obtain ⟨c0_, c1_, c2_, cf0_, cf1_, cf2_⟩ := at3 Hc1.out
    obtain ⟨a0_, a1_, a2_, af0_, af1_, af2_⟩ := at3 Ha1.out
    go_wp2
    have S0 := Lib.hid (fun v (hv : Below w1.heap.size w1 v) => (⟨cell_blk (blk_call hv Hc1.out) 0 rfl, cell_blk (blk_call hv Hc1.out) 1 rfl, cell_blk (blk_call hv Hc1.out) 2 rfl, bel_onto HB1.out hv HB1.out.size⟩ : v.cell? ⟨Bc, 0, none⟩ = some (.int .u64 r) ∧ v.cell? ⟨Bc, 1, none⟩ = some (.int .u64 b) ∧ v.cell? ⟨Bc, 2, none⟩ = some (.int .u64 t) ∧ Below w.heap.size w v))
    go_region_held3 (fun v => v.cell? ⟨Bc, 0, none⟩ = some (.int .u64 r) ∧ v.cell? ⟨Bc, 1, none⟩ = some (.int .u64 b) ∧ v.cell? ⟨Bc, 2, none⟩ = some (.int .u64 t) ∧ Below w.heap.size w v)
      (exact S0.out _ (by repeat' (first | (with_reducible exact Below.refl _ _) | (with_reducible exact (Below.refl _ _).drew) | (with_reducible refine bel_call (by with_reducible assumption) ?_ (Nat.le_refl _)))))
      (first
        | (go_at_call 26; with_reducible refine (LV.out _).mono ?_; rintro e u0 ⟨rfl, h0_⟩)
        | (go_at_call 24; with_reducible refine (A1.out _).mono ?_; rintro e u1 ⟨rfl, h1_⟩)
        | (go_at_call 24; with_reducible refine (A2.out _).mono ?_; rintro e u2 ⟨rfl, h2_⟩)
        | (go_at_call 24; with_reducible refine (A3.out _).mono ?_; rintro e u3 ⟨rfl, h3_⟩)
        | (go_at_call 24; with_reducible refine (A4.out _).mono ?_; rintro e u4 ⟨rfl, h4_⟩)
        | fail)
    go_wp2
    go_ret
    refine ⟨rfl, ?_⟩
    (repeat' (first | (with_reducible exact HB1.out) | (with_reducible refine below_drewN _ ?_) | (with_reducible refine Below.drew ?_) | (with_reducible refine bel_call (by with_reducible assumption) ?_ (by have := HB1.out.size; omega)) | (refine Below.alloc ?_ (by have := HB1.out.size; simp; omega) _)))
  · have hk : bck r b t ≠ 0 := fun h => hok (bck_ok.1 h)
    generalize bck r b t = kk at *
    have g : (kk != 0) = true := by simp [hk]
    have A1 := Lib.hid (fun W => bk_tick ⟨r, b, t⟩ ⟨⟨r0, r1⟩, ⟨b0, b1⟩, t0, t1⟩ x x0 x1 W)
    rw [show BK.tick ⟨r, b, t⟩ x = ⟨0, 0, 0⟩ from if_neg hok] at A1
    simp only [vw] at A1
    clear hok hk
    go_enter Try.func5, Try.ntmps5
    go_wp2_with fail
    refine cl_gen ?_
    intro v0 hv0
    have XB : Below w.heap.size w v0 := by
      rw [hv0]
      (repeat' (first | exact Below.refl _ _ | (with_reducible assumption) | refine below_drewN _ ?_ | refine Below.drew ?_ | refine Below.setCell ?_ (by simp) _ | refine Below.alloc ?_ (by simp; try omega) _))
    have Xa : v0.heap[w.heap.size]? = some (.cells #[.int .u64 r, .int .u64 b, .int .u64 t] 24 (0, 0)) := by
      rw [hv0]
      (repeat' (first | (with_reducible exact heap_alloc_new _ _) | (with_reducible exact blk_new (by first | (simp; done) | omega)) | (with_reducible refine blk_drew ?_) | (with_reducible apply put1_0) | (with_reducible apply put2_0) | (with_reducible apply put2_1) | (with_reducible apply put3_0) | (with_reducible apply put3_1) | (with_reducible apply put3_2) | (with_reducible apply put4_0) | (with_reducible apply put4_1) | (with_reducible apply put4_2) | (with_reducible apply put4_3) | (with_reducible apply put5_0) | (with_reducible apply put5_1) | (with_reducible apply put5_2) | (with_reducible apply put5_3) | (with_reducible apply put5_4) | (with_reducible apply put6_0) | (with_reducible apply put6_1) | (with_reducible apply put6_2) | (with_reducible apply put6_3) | (with_reducible apply put6_4) | (with_reducible apply put6_5) | (with_reducible refine blk_else (by omega) ?_) | (with_reducible refine blk_old ?_)))
    have Xc : v0.heap[w.heap.size + 1]? = some (.cells #[.int .u64 r, .int .u64 b, .int .u64 t] 25 (0, 0)) := by
      rw [hv0]
      (repeat' (first | (with_reducible exact heap_alloc_new _ _) | (with_reducible exact blk_new (by first | (simp; done) | omega)) | (with_reducible refine blk_drew ?_) | (with_reducible apply put1_0) | (with_reducible apply put2_0) | (with_reducible apply put2_1) | (with_reducible apply put3_0) | (with_reducible apply put3_1) | (with_reducible apply put3_2) | (with_reducible apply put4_0) | (with_reducible apply put4_1) | (with_reducible apply put4_2) | (with_reducible apply put4_3) | (with_reducible apply put5_0) | (with_reducible apply put5_1) | (with_reducible apply put5_2) | (with_reducible apply put5_3) | (with_reducible apply put5_4) | (with_reducible apply put6_0) | (with_reducible apply put6_1) | (with_reducible apply put6_2) | (with_reducible apply put6_3) | (with_reducible apply put6_4) | (with_reducible apply put6_5) | (with_reducible refine blk_else (by omega) ?_) | (with_reducible refine blk_old ?_)))
    obtain ⟨Bc, hBc⟩ : ∃ x, x = w.heap.size + 1 := ⟨_, rfl⟩
    rw [← hBc] at Xc
    try rw [← hBc]
    have lec : w.heap.size ≤ Bc := by omega
    obtain ⟨Ba, hBa⟩ : ∃ x, x = w.heap.size := ⟨_, rfl⟩
    rw [← hBa] at Xa
    try rw [← hBa]
    have nac : ¬ Ba = Bc := by omega
    have nca : ¬ Bc = Ba := fun h => nac h.symm
    have lea : w.heap.size ≤ Ba := by omega
    clear hBa hBc
    clear hv0
    refine (CM.out _).mono ?_
    rintro e w1 ⟨rfl, bb⟩
    have Hc1 := Lib.hid (blk_call bb Xc)
    have Ha1 := Lib.hid (blk_call bb Xa)
    have HB1 := Lib.hid (bel_onto XB bb XB.size)
    clear Xc Xa XB bb
    obtain ⟨c0_, c1_, c2_, cf0_, cf1_, cf2_⟩ := at3 Hc1.out
    obtain ⟨a0_, a1_, a2_, af0_, af1_, af2_⟩ := at3 Ha1.out
    go_wp2_with fail
    refine cl_gen ?_
    intro v1 hv1
    have Xc : v1.heap[Bc]? = some (.cells #[.int .u64 r, .int .u64 b, .int .u64 t] 25 (0, 0)) := by
      rw [hv1]
      (repeat' (first | (with_reducible exact Hc1.out) | (with_reducible exact Ha1.out) | (with_reducible exact heap_alloc_new _ _) | (with_reducible exact blk_new (by first | (simp; done) | omega)) | (with_reducible refine blk_drew ?_) | (with_reducible apply put1_0) | (with_reducible apply put2_0) | (with_reducible apply put2_1) | (with_reducible apply put3_0) | (with_reducible apply put3_1) | (with_reducible apply put3_2) | (with_reducible apply put4_0) | (with_reducible apply put4_1) | (with_reducible apply put4_2) | (with_reducible apply put4_3) | (with_reducible apply put5_0) | (with_reducible apply put5_1) | (with_reducible apply put5_2) | (with_reducible apply put5_3) | (with_reducible apply put5_4) | (with_reducible apply put6_0) | (with_reducible apply put6_1) | (with_reducible apply put6_2) | (with_reducible apply put6_3) | (with_reducible apply put6_4) | (with_reducible apply put6_5) | (with_reducible refine blk_else (by omega) ?_) | (with_reducible refine blk_old ?_)))
    have Xa : v1.heap[Ba]? = some (.cells #[.int .u64 r, .int .u64 b, .int .u64 t] 24 (0, 0)) := by
      rw [hv1]
      (repeat' (first | (with_reducible exact Hc1.out) | (with_reducible exact Ha1.out) | (with_reducible exact heap_alloc_new _ _) | (with_reducible exact blk_new (by first | (simp; done) | omega)) | (with_reducible refine blk_drew ?_) | (with_reducible apply put1_0) | (with_reducible apply put2_0) | (with_reducible apply put2_1) | (with_reducible apply put3_0) | (with_reducible apply put3_1) | (with_reducible apply put3_2) | (with_reducible apply put4_0) | (with_reducible apply put4_1) | (with_reducible apply put4_2) | (with_reducible apply put4_3) | (with_reducible apply put5_0) | (with_reducible apply put5_1) | (with_reducible apply put5_2) | (with_reducible apply put5_3) | (with_reducible apply put5_4) | (with_reducible apply put6_0) | (with_reducible apply put6_1) | (with_reducible apply put6_2) | (with_reducible apply put6_3) | (with_reducible apply put6_4) | (with_reducible apply put6_5) | (with_reducible refine blk_else (by omega) ?_) | (with_reducible refine blk_old ?_)))
    have XB : Below w.heap.size w v1 := by
      rw [hv1]
      (repeat' (first | (with_reducible exact HB1.out) | exact Below.refl _ _ | refine below_drewN _ ?_ | refine Below.drew ?_ | refine Below.setCell ?_ (by first | (simp; done) | omega) _ | refine Below.alloc ?_ (by have := HB1.out.size; simp; omega) _))
    clear c0_ c1_ c2_ cf0_ cf1_ cf2_ a0_ a1_ a2_ af0_ af1_ af2_
    clear hv1 Hc1 Ha1 HB1
    refine (A1.out _).mono ?_
    rintro e w2 ⟨rfl, bb⟩
    have Hc2 := Lib.hid (blk_call bb Xc)
    have Ha2 := Lib.hid (blk_call bb Xa)
    have HB2 := Lib.hid (bel_onto XB bb XB.size)
    clear Xc Xa XB bb
    obtain ⟨c0_, c1_, c2_, cf0_, cf1_, cf2_⟩ := at3 Hc2.out
    obtain ⟨a0_, a1_, a2_, af0_, af1_, af2_⟩ := at3 Ha2.out
    go_wp2_with fail
    refine cl_gen ?_
    intro v2 hv2
    have Xc : v2.heap[Bc]? = some (.cells #[.int .u64 r, .int .u64 b, .int .u64 t] 25 (0, 0)) := by
      rw [hv2]
      (repeat' (first | (with_reducible exact Hc2.out) | (with_reducible exact Ha2.out) | (with_reducible exact heap_alloc_new _ _) | (with_reducible exact blk_new (by first | (simp; done) | omega)) | (with_reducible refine blk_drew ?_) | (with_reducible apply put1_0) | (with_reducible apply put2_0) | (with_reducible apply put2_1) | (with_reducible apply put3_0) | (with_reducible apply put3_1) | (with_reducible apply put3_2) | (with_reducible apply put4_0) | (with_reducible apply put4_1) | (with_reducible apply put4_2) | (with_reducible apply put4_3) | (with_reducible apply put5_0) | (with_reducible apply put5_1) | (with_reducible apply put5_2) | (with_reducible apply put5_3) | (with_reducible apply put5_4) | (with_reducible apply put6_0) | (with_reducible apply put6_1) | (with_reducible apply put6_2) | (with_reducible apply put6_3) | (with_reducible apply put6_4) | (with_reducible apply put6_5) | (with_reducible refine blk_else (by omega) ?_) | (with_reducible refine blk_old ?_)))
    have Xa : v2.heap[Ba]? = some (.cells #[.int .u64 r, .int .u64 b, .int .u64 t] 24 (0, 0)) := by
      rw [hv2]
      (repeat' (first | (with_reducible exact Hc2.out) | (with_reducible exact Ha2.out) | (with_reducible exact heap_alloc_new _ _) | (with_reducible exact blk_new (by first | (simp; done) | omega)) | (with_reducible refine blk_drew ?_) | (with_reducible apply put1_0) | (with_reducible apply put2_0) | (with_reducible apply put2_1) | (with_reducible apply put3_0) | (with_reducible apply put3_1) | (with_reducible apply put3_2) | (with_reducible apply put4_0) | (with_reducible apply put4_1) | (with_reducible apply put4_2) | (with_reducible apply put4_3) | (with_reducible apply put5_0) | (with_reducible apply put5_1) | (with_reducible apply put5_2) | (with_reducible apply put5_3) | (with_reducible apply put5_4) | (with_reducible apply put6_0) | (with_reducible apply put6_1) | (with_reducible apply put6_2) | (with_reducible apply put6_3) | (with_reducible apply put6_4) | (with_reducible apply put6_5) | (with_reducible refine blk_else (by omega) ?_) | (with_reducible refine blk_old ?_)))
    have XB : Below w.heap.size w v2 := by
      rw [hv2]
      (repeat' (first | (with_reducible exact HB2.out) | exact Below.refl _ _ | refine below_drewN _ ?_ | refine Below.drew ?_ | refine Below.setCell ?_ (by first | (simp; done) | omega) _ | refine Below.alloc ?_ (by have := HB2.out.size; simp; omega) _))
    clear c0_ c1_ c2_ cf0_ cf1_ cf2_ a0_ a1_ a2_ af0_ af1_ af2_
    clear hv2 Hc2 Ha2 HB2
    refine (LV.out _).mono ?_
    rintro e w3 ⟨rfl, bb⟩
    have Hc3 := Lib.hid (blk_call bb Xc)
    have Ha3 := Lib.hid (blk_call bb Xa)
    have HB3 := Lib.hid (bel_onto XB bb XB.size)
    clear Xc Xa XB bb
    obtain ⟨c0_, c1_, c2_, cf0_, cf1_, cf2_⟩ := at3 Hc3.out
    obtain ⟨a0_, a1_, a2_, af0_, af1_, af2_⟩ := at3 Ha3.out
    clear c0_ c1_ c2_ cf0_ cf1_ cf2_ a0_ a1_ a2_ af0_ af1_ af2_
    go_wp2
    go_ret
    exact ⟨rfl, HB3.out⟩
end Go.Proofs.Ytgmdhanbeafagaa
