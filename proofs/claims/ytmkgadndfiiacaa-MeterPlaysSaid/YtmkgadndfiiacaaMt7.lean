/-
  What the document's answer of layer 21 makes of any meters and ticks. No condition but that numbers are words.
-/
import Derived.Test.YtmkgadndfiiacaaMt3
import Derived.Deep.DeepMust
import Derived.BigQuiet
namespace Go.Proofs.Ytmkgadndfiiacaa
set_option linter.unusedVariables false
set_option linter.unusedSimpArgs false
open Go.ChangeShapes Go.WideShapes Go.ChangeAt Go.RowKit
attribute [local go_sem] alloc_drewN setCell_drewN

set_option maxHeartbeats 2000000 in
theorem minus_any (a0 a1 a2 a3 b0 b1 b2 b3 m n : Int) (ha : Wide a0 a1 a2 a3 m) (hb : Wide b0 b1 b2 b3 n) (hs : n ≤ m) (w : World) :
    Calls Try.prog 85 #[(.agg #[.int .u64 (a0), .int .u64 (a1), .int .u64 (a2), .int .u64 (a3)]), (.agg #[.int .u64 (b0), .int .u64 (b1), .int .u64 (b2), .int .u64 (b3)])] w fun e w' => ∃ c0 c1 c2 c3, e = .returned (.agg #[.int .u64 (c0), .int .u64 (c1), .int .u64 (c2), .int .u64 (c3)]) ∧ Wide c0 c1 c2 c3 (m - n) ∧ Below w.heap.size w w' := by
  obtain ⟨⟨ha00, ha01⟩, ⟨ha10, ha11⟩, ⟨ha20, ha21⟩, ⟨ha30, ha31⟩, hm⟩ := ha
  obtain ⟨⟨hb00, hb01⟩, ⟨hb10, hb11⟩, ⟨hb20, hb21⟩, ⟨hb30, hb31⟩, hn⟩ := hb
  have HM := Lib.hid hm; clear hm
  have HN := Lib.hid hn; clear hn
  have HS := Lib.hid hs; clear hs
  go_enter Try.func85, Try.ntmps85
  go_wp2
  refine wp_loop_rounds 5 ?_
  rw [rounds_succ]
  go_wp2
  go_quiet (fail)
  go_wp2
  rw [rounds_succ]
  go_wp2
  go_quiet (fail)
  go_wp2
  rw [rounds_succ]
  go_wp2
  go_quiet (fail)
  go_wp2
  rw [rounds_succ]
  go_wp2
  go_quiet (fail)
  go_wp2
  rw [rounds_succ]
  go_wp2
  go_returns
  have HM' := HM.out
  have HN' := HN.out
  have HS' := HS.out
  refine ⟨_, _, _, _, rfl, ⟨⟨by omega, by omega⟩, ⟨by omega, by omega⟩, ⟨by omega, by omega⟩, ⟨by omega, by omega⟩, ?_⟩, ?_⟩
  · omega
  · repeat' (first
      | (with_reducible exact Below.refl _ _) | (with_reducible assumption) | (with_reducible refine Below.alloc ?_ ?_ _) | (with_reducible refine below_drewN _ ?_) | (with_reducible refine Below.drew ?_) | (with_reducible refine Below.setCell ?_ ?_ _) | go_size)
theorem of_b (b : Int) (b0 : 0 ≤ b) (b1 : b ≤ 18446744073709551615) (w : World) :
    Calls Try.prog 86 #[.int .u64 b] w fun e w' => ∃ x0 x1, e = .returned (.agg #[.int .u64 (x0), .int .u64 (x1), .int .u64 (0), .int .u64 (0)]) ∧ Wide x0 x1 0 0 b ∧ Below w.heap.size w w' := by
  refine (of_any b b0 b1 w).mono ?_
  rintro e w' ⟨x0, x1, o, rfl, hx, rfl⟩
  exact ⟨x0, x1, rfl, hx, (Below.refl _ w).alloc (Nat.le_refl _) _⟩
set_option maxRecDepth 100000 in
set_option maxHeartbeats 4000000 in
theorem least_any (a0 a1 a2 a3 m b : Int) (ha : Wide a0 a1 a2 a3 m) (b0 : 0 ≤ b) (b1 : b ≤ 18446744073709551615) (w : World) :
    Calls Try.prog 84 #[(.agg #[.int .u64 (a0), .int .u64 (a1), .int .u64 (a2), .int .u64 (a3)]), .int .u64 b] w fun e w' => e = .returned (.int .u64 (min m b)) ∧ Below w.heap.size w w' := by
  have HA := Lib.hid ha
  clear ha
  obtain ⟨W1, hW1⟩ : ∃ x, x = w.alloc (.cells #[.int .u64 a0, .int .u64 a1, .int .u64 a2, .int .u64 a3] 149) := ⟨_, rfl⟩
  have c0 : W1.cell? ⟨w.heap.size, 0, none⟩ = some (.int .u64 a0) := by rw [hW1]; simp [go_sem]
  have c1 : W1.cell? ⟨w.heap.size, 1, none⟩ = some (.int .u64 a1) := by rw [hW1]; simp [go_sem]
  have c2 : W1.cell? ⟨w.heap.size, 2, none⟩ = some (.int .u64 a2) := by rw [hW1]; simp [go_sem]
  have c3 : W1.cell? ⟨w.heap.size, 3, none⟩ = some (.int .u64 a3) := by rw [hW1]; simp [go_sem]
  have hs : w.heap.size < W1.heap.size := by rw [hW1]; simp
  have hB : Below w.heap.size w W1 := by rw [hW1]; exact (Below.refl _ w).alloc (Nat.le_refl _) _
  have S1 := Lib.hid (fun v (hv : Below W1.heap.size W1 v) => (⟨(hv.cell (p := ⟨w.heap.size, 0, none⟩) hs).trans c0, (hv.cell (p := ⟨w.heap.size, 1, none⟩) hs).trans c1, (hv.cell (p := ⟨w.heap.size, 2, none⟩) hs).trans c2, (hv.cell (p := ⟨w.heap.size, 3, none⟩) hs).trans c3, hv⟩ : v.cell? ⟨w.heap.size, 0, none⟩ = some (.int .u64 a0) ∧ v.cell? ⟨w.heap.size, 1, none⟩ = some (.int .u64 a1) ∧ v.cell? ⟨w.heap.size, 2, none⟩ = some (.int .u64 a2) ∧ v.cell? ⟨w.heap.size, 3, none⟩ = some (.int .u64 a3) ∧ Below W1.heap.size W1 v))
  have OF := Lib.hid (fun W => of_b b b0 b1 W)
  by_cases hlt : m < b
  · have LS := Lib.hid (fun (x0 x1 : Int) (hx : Wide x0 x1 0 0 b) (W : World) => less_any a0 a1 a2 a3 x0 x1 0 0 m b HA.out hx W)
    rw [decide_eq_true hlt] at LS
    have CP := Lib.hid (fun (W : World) => cap_any a0 a1 a2 a3 m HA.out W)
    rw [show min m b = m by omega, ]
    rw [cap_of (show m ≤ 18446744073709551615 by omega)] at CP
    clear hlt
    go_enter Try.func84, Try.ntmps84
    go_wp2
    rw [← hW1]
    clear hW1
    go_region_held3 (fun v => v.cell? ⟨w.heap.size, 0, none⟩ = some (.int .u64 a0) ∧ v.cell? ⟨w.heap.size, 1, none⟩ = some (.int .u64 a1) ∧ v.cell? ⟨w.heap.size, 2, none⟩ = some (.int .u64 a2) ∧ v.cell? ⟨w.heap.size, 3, none⟩ = some (.int .u64 a3) ∧ Below W1.heap.size W1 v)
      ((first | exact S1.out _ (((Below.refl _ W1).drew.trans hc).trans (hc2.mono hc.size)) | exact S1.out _ ((Below.refl _ W1).drew.trans hc) | exact S1.out _ (Below.refl _ W1).drew))
      (first
        | (go_at_call 86; refine (OF.out _).mono ?_; rintro e w2 ⟨x0, x1, rfl, hx, hc⟩)
        | (go_at_call 135; refine (LS.out _ _ hx _).mono ?_; rintro e w3 ⟨rfl, hc2⟩)
        | fail)
    have HB := Lib.hid (show Below W1.heap.size W1 w3 from ((Below.refl _ W1).drew.trans hc).trans (hc2.mono hc.size))
    obtain ⟨d0, d1, d2, d3, -⟩ := S1.out _ HB.out
    go_wp2_with fail
    refine (CP.out _).mono ?_
    rintro e w4 ⟨rfl, hc4⟩
    have HC := Lib.hid (hB.trans ((HB.out.trans (hc4.mono HB.out.size)).mono hB.size))
    go_wp2
    go_ret
    exact ⟨rfl, HC.out⟩
  · have LS := Lib.hid (fun (x0 x1 : Int) (hx : Wide x0 x1 0 0 b) (W : World) => less_any a0 a1 a2 a3 x0 x1 0 0 m b HA.out hx W)
    rw [decide_eq_false hlt] at LS
    rw [show min m b = b by omega, ]
    clear hlt
    go_enter Try.func84, Try.ntmps84
    go_wp2
    rw [← hW1]
    clear hW1
    go_region_held3 (fun v => v.cell? ⟨w.heap.size, 0, none⟩ = some (.int .u64 a0) ∧ v.cell? ⟨w.heap.size, 1, none⟩ = some (.int .u64 a1) ∧ v.cell? ⟨w.heap.size, 2, none⟩ = some (.int .u64 a2) ∧ v.cell? ⟨w.heap.size, 3, none⟩ = some (.int .u64 a3) ∧ Below W1.heap.size W1 v)
      ((first | exact S1.out _ (((Below.refl _ W1).drew.trans hc).trans (hc2.mono hc.size)) | exact S1.out _ ((Below.refl _ W1).drew.trans hc) | exact S1.out _ (Below.refl _ W1).drew))
      (first
        | (go_at_call 86; refine (OF.out _).mono ?_; rintro e w2 ⟨x0, x1, rfl, hx, hc⟩)
        | (go_at_call 135; refine (LS.out _ _ hx _).mono ?_; rintro e w3 ⟨rfl, hc2⟩)
        | fail)
    have HB := Lib.hid (show Below W1.heap.size W1 w3 from ((Below.refl _ W1).drew.trans hc).trans (hc2.mono hc.size))
    obtain ⟨d0, d1, d2, d3, -⟩ := S1.out _ HB.out
    have HC := Lib.hid (hB.trans (HB.out.mono hB.size))
    go_wp2
    go_ret
    exact ⟨rfl, HC.out⟩
set_option maxRecDepth 100000 in
set_option maxHeartbeats 4000000 in
theorem mo_rtick (m : MO) (hm : m.wd) (x : Int) (x0 : 0 ≤ x) (x1 : x ≤ 18446744073709551615) (w : World) :
    Calls Try.prog 18 #[m.val, .int .u64 x] w fun e w' => e = .returned (m.tick x).val ∧ Below w.heap.size w w' := by
  obtain ⟨⟨r0, r1⟩, ⟨n0, n1⟩, ⟨f0, f1⟩, ⟨a0, a1⟩, b0, b1⟩ := hm
  obtain ⟨r, n, f, a, b⟩ := m
  dsimp only at r0 r1 n0 n1 f0 f1 a0 a1 b0 b1
  have MY := Lib.hid (fun (W : World) => ((mo_rmay r n f a b W).mono (by rintro e w' ⟨rfl, rfl⟩; exact ⟨rfl, (Below.refl _ W).alloc (Nat.le_refl _) _⟩) : Calls Try.prog 13 #[.agg #[.int .u64 r, .int .u64 n, .int .u64 f, .int .u64 a, .int .u64 b]] W fun e w' => e = .returned (.int .i64 (mor r n f a b)) ∧ Below W.heap.size W w'))
  by_cases hok : MO.ok ⟨r, n, f, a, b⟩
  · rw [show MO.tick ⟨r, n, f, a, b⟩ x = ⟨r, n, f, a + min (r * x) (n - a), b + min (r * x - min (r * x) (n - a)) (f - b)⟩ from if_pos hok]
    rw [mor_ok.2 hok] at MY
    simp only [mo_val]
    obtain ⟨-, k1, k2⟩ := hok
    dsimp only at k1 k2
    obtain ⟨p0, p1⟩ := wd_mul r x r0 r1 x0 x1
    have TM := Lib.hid (fun W => times_any r x r0 r1 x0 x1 W)
    generalize r * x = P at *
    have L1 := Lib.hid (fun (a0 a1 a2 a3 : Int) (h : Wide a0 a1 a2 a3 P) (W : World) => least_any a0 a1 a2 a3 P (n - a) h (by omega) (by omega) W)
    obtain ⟨tA, hA⟩ : ∃ q, q = min P (n - a) := ⟨_, rfl⟩
    rw [← hA] at L1 ⊢
    have OF := Lib.hid (fun W => of_b tA (by omega) (by omega) W)
    have MN := Lib.hid (fun (a0 a1 a2 a3 b0 b1 : Int) (h : Wide a0 a1 a2 a3 P) (h2 : Wide b0 b1 0 0 tA) (W : World) => minus_any a0 a1 a2 a3 b0 b1 0 0 P tA h h2 (by omega) W)
    have L2 := Lib.hid (fun (a0 a1 a2 a3 : Int) (h : Wide a0 a1 a2 a3 (P - tA)) (W : World) => least_any a0 a1 a2 a3 (P - tA) (f - b) h (by omega) (by omega) W)
    obtain ⟨tB, hB⟩ : ∃ q, q = min (P - tA) (f - b) := ⟨_, rfl⟩
    rw [← hB] at L2 ⊢
    have wfb_ : IntKind.u64.wrap (f - b) = f - b := by rw [IntKind.wrap_u64]; omega
    have q1 : 0 ≤ tA := by omega
    have q2 : a + tA ≤ 18446744073709551615 := by omega
    have q3 : 0 ≤ tB := by omega
    have q4 : b + tB ≤ 18446744073709551615 := by omega
    clear hA hB p0 p1
    go_enter Try.func18, Try.ntmps18
    go_wp2_with fail
    refine cl_gen ?_
    intro v0 hv0
    have XB : Below w.heap.size w v0 := by
      rw [hv0]
      (repeat' (first | (with_reducible exact Below.refl _ _) | (with_reducible assumption) | (with_reducible refine below_drewN _ ?_) | (with_reducible refine Below.drew ?_) | (with_reducible refine Below.setCell ?_ (by simp) _) | (with_reducible refine Below.alloc ?_ (by simp; try omega) _)))
    have Xa : v0.heap[w.heap.size]? = some (.cells #[.int .u64 r, .int .u64 n, .int .u64 f, .int .u64 a, .int .u64 b] 24 (0, 0)) := by
      rw [hv0]
      (repeat' (first | (with_reducible exact heap_alloc_new _ _) | (with_reducible exact blk_new (by first | (simp; done) | omega)) | (with_reducible refine blk_drew ?_) | (with_reducible apply put5_0) | (with_reducible apply put5_1) | (with_reducible apply put5_2) | (with_reducible apply put5_3) | (with_reducible apply put5_4) | (with_reducible refine blk_else (by omega) ?_) | (with_reducible refine blk_old ?_)))
    have Xz : v0.heap[w.heap.size + 1]? = some (.cells #[.int .u64 0, .int .u64 0, .int .u64 0, .int .u64 0, .int .u64 0] 24 (0, 0)) := by
      rw [hv0]
      (repeat' (first | (with_reducible exact heap_alloc_new _ _) | (with_reducible exact blk_new (by first | (simp; done) | omega)) | (with_reducible refine blk_drew ?_) | (with_reducible apply put5_0) | (with_reducible apply put5_1) | (with_reducible apply put5_2) | (with_reducible apply put5_3) | (with_reducible apply put5_4) | (with_reducible refine blk_else (by omega) ?_) | (with_reducible refine blk_old ?_)))
    obtain ⟨Bz, hBz⟩ : ∃ x, x = w.heap.size + 1 := ⟨_, rfl⟩
    rw [← hBz] at Xz
    try rw [← hBz]
    have lez : w.heap.size ≤ Bz := by omega
    obtain ⟨Ba, hBa⟩ : ∃ x, x = w.heap.size := ⟨_, rfl⟩
    rw [← hBa] at Xa
    try rw [← hBa]
    have naz : ¬ Ba = Bz := by omega
    have nza : ¬ Bz = Ba := fun h => naz h.symm
    have lea : w.heap.size ≤ Ba := by omega
    clear hBa hBz
    clear hv0
    refine (MY.out _).mono ?_
    rintro e w1 ⟨rfl, bb⟩
    have Hz1 := Lib.hid (blk_call bb Xz)
    have Ha1 := Lib.hid (blk_call bb Xa)
    have HB1 := Lib.hid (bel_onto XB bb XB.size)
    clear Xz Xa XB bb
    obtain ⟨z0_, z1_, z2_, z3_, z4_, zf0_, zf1_, zf2_, zf3_, zf4_⟩ := at5 Hz1.out
    have zn_ := ne_blk Hz1.out
    have zm_ := Ne.symm (a := Bz) zn_
    have zl_ := lt_blk Hz1.out
    obtain ⟨a0_, a1_, a2_, a3_, a4_, af0_, af1_, af2_, af3_, af4_⟩ := at5 Ha1.out
    have an_ := ne_blk Ha1.out
    have am_ := Ne.symm (a := Ba) an_
    have al_ := lt_blk Ha1.out
    go_wp2_with fail
    refine cl_gen ?_
    intro v1 hv1
    have Xz : v1.heap[Bz]? = some (.cells #[.int .u64 0, .int .u64 0, .int .u64 0, .int .u64 0, .int .u64 0] 24 (0, 0)) := by
      rw [hv1]
      (repeat' (first | (with_reducible exact Hz1.out) | (with_reducible exact heap_alloc_new _ _) | (with_reducible exact blk_new (by first | (simp; done) | omega)) | (with_reducible refine blk_drew ?_) | (with_reducible apply put5_0) | (with_reducible apply put5_1) | (with_reducible apply put5_2) | (with_reducible apply put5_3) | (with_reducible apply put5_4) | (with_reducible refine blk_else (by omega) ?_) | (with_reducible refine blk_old ?_)))
    have Xa : v1.heap[Ba]? = some (.cells #[.int .u64 r, .int .u64 n, .int .u64 f, .int .u64 a, .int .u64 b] 24 (0, 0)) := by
      rw [hv1]
      (repeat' (first | (with_reducible exact Ha1.out) | (with_reducible exact heap_alloc_new _ _) | (with_reducible exact blk_new (by first | (simp; done) | omega)) | (with_reducible refine blk_drew ?_) | (with_reducible apply put5_0) | (with_reducible apply put5_1) | (with_reducible apply put5_2) | (with_reducible apply put5_3) | (with_reducible apply put5_4) | (with_reducible refine blk_else (by omega) ?_) | (with_reducible refine blk_old ?_)))
    have XB : Below w.heap.size w v1 := by
      rw [hv1]
      (repeat' (first | (with_reducible exact HB1.out) | (with_reducible exact Below.refl _ _) | (with_reducible refine below_drewN _ ?_) | (with_reducible refine Below.drew ?_) | (with_reducible refine Below.setCell ?_ (by first | (simp; done) | omega) _) | (with_reducible refine Below.alloc ?_ (by have := HB1.out.size; simp; omega) _)))
    clear z0_ z1_ z2_ z3_ z4_ zf0_ zf1_ zf2_ zf3_ zf4_ zn_ zm_ zl_ a0_ a1_ a2_ a3_ a4_ af0_ af1_ af2_ af3_ af4_ an_ am_ al_
    clear hv1 Hz1 Ha1 HB1
    refine (TM.out _).mono ?_
    rintro e w2 ⟨y0, y1, y2, y3, rfl, hy, bb⟩
    have Hz2 := Lib.hid (blk_call bb Xz)
    have Ha2 := Lib.hid (blk_call bb Xa)
    have HB2 := Lib.hid (bel_onto XB bb XB.size)
    clear Xz Xa XB bb
    obtain ⟨z0_, z1_, z2_, z3_, z4_, zf0_, zf1_, zf2_, zf3_, zf4_⟩ := at5 Hz2.out
    have zn_ := ne_blk Hz2.out
    have zm_ := Ne.symm (a := Bz) zn_
    have zl_ := lt_blk Hz2.out
    obtain ⟨a0_, a1_, a2_, a3_, a4_, af0_, af1_, af2_, af3_, af4_⟩ := at5 Ha2.out
    have an_ := ne_blk Ha2.out
    have am_ := Ne.symm (a := Ba) an_
    have al_ := lt_blk Ha2.out
    have HY := Lib.hid hy
    clear hy
    go_wp2_with fail
    refine cl_gen ?_
    intro v2 hv2
    have Xz : v2.heap[Bz]? = some (.cells #[.int .u64 0, .int .u64 0, .int .u64 0, .int .u64 0, .int .u64 0] 24 (0, 0)) := by
      rw [hv2]
      (repeat' (first | (with_reducible exact Hz2.out) | (with_reducible exact heap_alloc_new _ _) | (with_reducible exact blk_new (by first | (simp; done) | omega)) | (with_reducible refine blk_drew ?_) | (with_reducible apply put5_0) | (with_reducible apply put5_1) | (with_reducible apply put5_2) | (with_reducible apply put5_3) | (with_reducible apply put5_4) | (with_reducible refine blk_else (by omega) ?_) | (with_reducible refine blk_old ?_)))
    have Xa : v2.heap[Ba]? = some (.cells #[.int .u64 r, .int .u64 n, .int .u64 f, .int .u64 a, .int .u64 b] 24 (0, 0)) := by
      rw [hv2]
      (repeat' (first | (with_reducible exact Ha2.out) | (with_reducible exact heap_alloc_new _ _) | (with_reducible exact blk_new (by first | (simp; done) | omega)) | (with_reducible refine blk_drew ?_) | (with_reducible apply put5_0) | (with_reducible apply put5_1) | (with_reducible apply put5_2) | (with_reducible apply put5_3) | (with_reducible apply put5_4) | (with_reducible refine blk_else (by omega) ?_) | (with_reducible refine blk_old ?_)))
    have XB : Below w.heap.size w v2 := by
      rw [hv2]
      (repeat' (first | (with_reducible exact HB2.out) | (with_reducible exact Below.refl _ _) | (with_reducible refine below_drewN _ ?_) | (with_reducible refine Below.drew ?_) | (with_reducible refine Below.setCell ?_ (by first | (simp; done) | omega) _) | (with_reducible refine Below.alloc ?_ (by have := HB2.out.size; simp; omega) _)))
    have Xc : v2.heap[w2.heap.size]? = some (.cells #[.int .u64 y0, .int .u64 y1, .int .u64 y2, .int .u64 y3] 149 (0, 0)) := by
      rw [hv2]
      (repeat' (first | (with_reducible exact heap_alloc_new _ _) | (with_reducible exact blk_new (by first | (simp; done) | omega)) | (with_reducible refine blk_drew ?_) | (with_reducible apply put4_0) | (with_reducible apply put4_1) | (with_reducible apply put4_2) | (with_reducible apply put4_3) | (with_reducible refine blk_else (by omega) ?_) | (with_reducible refine blk_old ?_)))
    obtain ⟨Bc, hBc⟩ : ∃ x, x = w2.heap.size := ⟨_, rfl⟩
    rw [← hBc] at Xc
    try rw [← hBc]
    have ncz : ¬ Bc = Bz := by have := lt_blk Hz2.out; omega
    have nzc : ¬ Bz = Bc := fun h => ncz h.symm
    have nca : ¬ Bc = Ba := by have := lt_blk Ha2.out; omega
    have nac : ¬ Ba = Bc := fun h => nca h.symm
    have lec : w.heap.size ≤ Bc := by have := HB2.out.size; omega
    clear hBc
    clear z0_ z1_ z2_ z3_ z4_ zf0_ zf1_ zf2_ zf3_ zf4_ zn_ zm_ zl_ a0_ a1_ a2_ a3_ a4_ af0_ af1_ af2_ af3_ af4_ an_ am_ al_
    clear hv2 Hz2 Ha2 HB2
    refine (L1.out _ _ _ _ HY.out _).mono ?_
    rintro e w3 ⟨rfl, bb⟩
    have Hz3 := Lib.hid (blk_call bb Xz)
    have Ha3 := Lib.hid (blk_call bb Xa)
    have Hc3 := Lib.hid (blk_call bb Xc)
    have HB3 := Lib.hid (bel_onto XB bb XB.size)
    clear Xz Xa Xc XB bb
    obtain ⟨z0_, z1_, z2_, z3_, z4_, zf0_, zf1_, zf2_, zf3_, zf4_⟩ := at5 Hz3.out
    have zn_ := ne_blk Hz3.out
    have zm_ := Ne.symm (a := Bz) zn_
    have zl_ := lt_blk Hz3.out
    obtain ⟨a0_, a1_, a2_, a3_, a4_, af0_, af1_, af2_, af3_, af4_⟩ := at5 Ha3.out
    have an_ := ne_blk Ha3.out
    have am_ := Ne.symm (a := Ba) an_
    have al_ := lt_blk Ha3.out
    obtain ⟨c0_, c1_, c2_, c3_, cf0_, cf1_, cf2_, cf3_⟩ := at4 Hc3.out
    have cn_ := ne_blk Hc3.out
    have cm_ := Ne.symm (a := Bc) cn_
    have cl_ := lt_blk Hc3.out
    go_wp2
    refine wp_genc ?_
    intro v3 hv3
    have Xz : v3.heap[Bz]? = some (.cells #[.int .u64 0, .int .u64 0, .int .u64 0, .int .u64 0, .int .u64 0] 24 (0, 0)) := by
      rw [hv3]
      (repeat' (first | (with_reducible exact Hz3.out) | (with_reducible exact heap_alloc_new _ _) | (with_reducible exact blk_new (by first | (simp; done) | omega)) | (with_reducible refine blk_drew ?_) | (with_reducible apply put5_0) | (with_reducible apply put5_1) | (with_reducible apply put5_2) | (with_reducible apply put5_3) | (with_reducible apply put5_4) | (with_reducible refine blk_else (by omega) ?_) | (with_reducible refine blk_old ?_)))
    have Xa : v3.heap[Ba]? = some (.cells #[.int .u64 r, .int .u64 n, .int .u64 f, .int .u64 a, .int .u64 b] 24 (0, 0)) := by
      rw [hv3]
      (repeat' (first | (with_reducible exact Ha3.out) | (with_reducible exact heap_alloc_new _ _) | (with_reducible exact blk_new (by first | (simp; done) | omega)) | (with_reducible refine blk_drew ?_) | (with_reducible apply put5_0) | (with_reducible apply put5_1) | (with_reducible apply put5_2) | (with_reducible apply put5_3) | (with_reducible apply put5_4) | (with_reducible refine blk_else (by omega) ?_) | (with_reducible refine blk_old ?_)))
    have Xc : v3.heap[Bc]? = some (.cells #[.int .u64 y0, .int .u64 y1, .int .u64 y2, .int .u64 y3] 149 (0, 0)) := by
      rw [hv3]
      (repeat' (first | (with_reducible exact Hc3.out) | (with_reducible exact heap_alloc_new _ _) | (with_reducible exact blk_new (by first | (simp; done) | omega)) | (with_reducible refine blk_drew ?_) | (with_reducible apply put4_0) | (with_reducible apply put4_1) | (with_reducible apply put4_2) | (with_reducible apply put4_3) | (with_reducible refine blk_else (by omega) ?_) | (with_reducible refine blk_old ?_)))
    have XB : Below w.heap.size w v3 := by
      rw [hv3]
      (repeat' (first | (with_reducible exact HB3.out) | (with_reducible exact Below.refl _ _) | (with_reducible refine below_drewN _ ?_) | (with_reducible refine Below.drew ?_) | (with_reducible refine Below.setCell ?_ (by first | (simp; done) | omega) _) | (with_reducible refine Below.alloc ?_ (by have := HB3.out.size; simp; omega) _)))
    clear z0_ z1_ z2_ z3_ z4_ zf0_ zf1_ zf2_ zf3_ zf4_ zn_ zm_ zl_ a0_ a1_ a2_ a3_ a4_ af0_ af1_ af2_ af3_ af4_ an_ am_ al_ c0_ c1_ c2_ c3_ cf0_ cf1_ cf2_ cf3_ cn_ cm_ cl_
    clear hv3 Hz3 Ha3 Hc3 HB3
    have Hz4 := Lib.hid Xz
    have Ha4 := Lib.hid Xa
    have Hc4 := Lib.hid Xc
    have HB4 := Lib.hid XB
    clear Xz Xa Xc XB
    obtain ⟨z0_, z1_, z2_, z3_, z4_, zf0_, zf1_, zf2_, zf3_, zf4_⟩ := at5 Hz4.out
    have zn_ := ne_blk Hz4.out
    have zm_ := Ne.symm (a := Bz) zn_
    have zl_ := lt_blk Hz4.out
    obtain ⟨a0_, a1_, a2_, a3_, a4_, af0_, af1_, af2_, af3_, af4_⟩ := at5 Ha4.out
    have an_ := ne_blk Ha4.out
    have am_ := Ne.symm (a := Ba) an_
    have al_ := lt_blk Ha4.out
    obtain ⟨c0_, c1_, c2_, c3_, cf0_, cf1_, cf2_, cf3_⟩ := at4 Hc4.out
    have cn_ := ne_blk Hc4.out
    have cm_ := Ne.symm (a := Bc) cn_
    have cl_ := lt_blk Hc4.out
    have S0 := Lib.hid (fun v (hv : Below v3.heap.size v3 v) => (⟨cell_blk (blk_call hv Ha4.out) 0 rfl, cell_blk (blk_call hv Ha4.out) 1 rfl, cell_blk (blk_call hv Ha4.out) 2 rfl, cell_blk (blk_call hv Ha4.out) 3 rfl, cell_blk (blk_call hv Ha4.out) 4 rfl, cell_blk (blk_call hv Hc4.out) 0 rfl, cell_blk (blk_call hv Hc4.out) 1 rfl, cell_blk (blk_call hv Hc4.out) 2 rfl, cell_blk (blk_call hv Hc4.out) 3 rfl, bel_onto HB4.out hv HB4.out.size⟩ : v.cell? ⟨Ba, 0, none⟩ = some (.int .u64 r) ∧ v.cell? ⟨Ba, 1, none⟩ = some (.int .u64 n) ∧ v.cell? ⟨Ba, 2, none⟩ = some (.int .u64 f) ∧ v.cell? ⟨Ba, 3, none⟩ = some (.int .u64 a) ∧ v.cell? ⟨Ba, 4, none⟩ = some (.int .u64 b) ∧ v.cell? ⟨Bc, 0, none⟩ = some (.int .u64 y0) ∧ v.cell? ⟨Bc, 1, none⟩ = some (.int .u64 y1) ∧ v.cell? ⟨Bc, 2, none⟩ = some (.int .u64 y2) ∧ v.cell? ⟨Bc, 3, none⟩ = some (.int .u64 y3) ∧ Below w.heap.size w v))
    go_region_held3 (fun v => v.cell? ⟨Ba, 0, none⟩ = some (.int .u64 r) ∧ v.cell? ⟨Ba, 1, none⟩ = some (.int .u64 n) ∧ v.cell? ⟨Ba, 2, none⟩ = some (.int .u64 f) ∧ v.cell? ⟨Ba, 3, none⟩ = some (.int .u64 a) ∧ v.cell? ⟨Ba, 4, none⟩ = some (.int .u64 b) ∧ v.cell? ⟨Bc, 0, none⟩ = some (.int .u64 y0) ∧ v.cell? ⟨Bc, 1, none⟩ = some (.int .u64 y1) ∧ v.cell? ⟨Bc, 2, none⟩ = some (.int .u64 y2) ∧ v.cell? ⟨Bc, 3, none⟩ = some (.int .u64 y3) ∧ Below w.heap.size w v)
      (exact S0.out _ (by repeat' (first | (with_reducible exact Below.refl _ _) | (with_reducible exact (Below.refl _ _).drew) | (with_reducible refine bel_call (by with_reducible assumption) ?_ (Nat.le_refl _)))))
      (first
        | (go_at_call 86; with_reducible refine (OF.out _).mono ?_; rintro e u1 ⟨e0_, e1_, rfl, he_, hu1⟩)
        | (go_at_call 85; with_reducible refine (MN.out _ _ _ _ _ _ HY.out he_ _).mono ?_; rintro e u2 ⟨g0_, g1_, g2_, g3_, rfl, hg_, hu2⟩)
        | (go_at_call 84; with_reducible refine (L2.out _ _ _ _ hg_ _).mono ?_; rintro e u3 ⟨rfl, hu3⟩)
        | fail)
    clear S0
    have Xz : u3.heap[Bz]? = some (.cells #[.int .u64 0, .int .u64 0, .int .u64 0, .int .u64 0, .int .u64 0] 24 (0, 0)) := by (repeat' (first | (with_reducible exact Hz4.out) | (with_reducible refine blk_drew ?_) | (with_reducible refine blk_call (by with_reducible assumption) ?_)))
    have Xa : u3.heap[Ba]? = some (.cells #[.int .u64 r, .int .u64 n, .int .u64 f, .int .u64 a, .int .u64 b] 24 (0, 0)) := by (repeat' (first | (with_reducible exact Ha4.out) | (with_reducible refine blk_drew ?_) | (with_reducible refine blk_call (by with_reducible assumption) ?_)))
    have Xc : u3.heap[Bc]? = some (.cells #[.int .u64 y0, .int .u64 y1, .int .u64 y2, .int .u64 y3] 149 (0, 0)) := by (repeat' (first | (with_reducible exact Hc4.out) | (with_reducible refine blk_drew ?_) | (with_reducible refine blk_call (by with_reducible assumption) ?_)))
    have XB : Below w.heap.size w u3 := by (repeat' (first | (with_reducible exact HB4.out) | (with_reducible refine Below.drew ?_) | (with_reducible refine bel_call (by with_reducible assumption) ?_ (by have := HB4.out.size; first | omega | (simp; omega)))))
    clear z0_ z1_ z2_ z3_ z4_ zf0_ zf1_ zf2_ zf3_ zf4_ zn_ zm_ zl_ a0_ a1_ a2_ a3_ a4_ af0_ af1_ af2_ af3_ af4_ an_ am_ al_ c0_ c1_ c2_ c3_ cf0_ cf1_ cf2_ cf3_ cn_ cm_ cl_
    clear Hz4 Ha4 Hc4 HB4 hu1 hu2 hu3
    have Hz5 := Lib.hid Xz
    have Ha5 := Lib.hid Xa
    have Hc5 := Lib.hid Xc
    have HB5 := Lib.hid XB
    clear Xz Xa Xc XB
    obtain ⟨z0_, z1_, z2_, z3_, z4_, zf0_, zf1_, zf2_, zf3_, zf4_⟩ := at5 Hz5.out
    have zn_ := ne_blk Hz5.out
    have zm_ := Ne.symm (a := Bz) zn_
    have zl_ := lt_blk Hz5.out
    obtain ⟨a0_, a1_, a2_, a3_, a4_, af0_, af1_, af2_, af3_, af4_⟩ := at5 Ha5.out
    have an_ := ne_blk Ha5.out
    have am_ := Ne.symm (a := Ba) an_
    have al_ := lt_blk Ha5.out
    obtain ⟨c0_, c1_, c2_, c3_, cf0_, cf1_, cf2_, cf3_⟩ := at4 Hc5.out
    have cn_ := ne_blk Hc5.out
    have cm_ := Ne.symm (a := Bc) cn_
    have cl_ := lt_blk Hc5.out
    go_wp2
    (try simp only [Exit.inBlock, Exit.then])
    refine bp_gen ?_
    intro v5 hv5
    have Xz : v5.heap[Bz]? = some (.cells #[.int .u64 r, .int .u64 n, .int .u64 f, .int .u64 (a + tA), .int .u64 (b + tB)] 24 (0, 0)) := by
      rw [hv5]
      (repeat' (first | (with_reducible exact Hz5.out) | (with_reducible exact heap_alloc_new _ _) | (with_reducible exact blk_new (by first | (simp; done) | omega)) | (with_reducible refine blk_drew ?_) | (with_reducible apply put5_0) | (with_reducible apply put5_1) | (with_reducible apply put5_2) | (with_reducible apply put5_3) | (with_reducible apply put5_4) | (with_reducible refine blk_else (by omega) ?_) | (with_reducible refine blk_old ?_)))
    have XB : Below w.heap.size w v5 := by
      rw [hv5]
      (repeat' (first | (with_reducible exact HB5.out) | (with_reducible exact Below.refl _ _) | (with_reducible refine below_drewN _ ?_) | (with_reducible refine Below.drew ?_) | (with_reducible refine Below.setCell ?_ (by first | (simp; done) | omega) _) | (with_reducible refine Below.alloc ?_ (by have := HB5.out.size; simp; omega) _)))
    clear z0_ z1_ z2_ z3_ z4_ zf0_ zf1_ zf2_ zf3_ zf4_ zn_ zm_ zl_ a0_ a1_ a2_ a3_ a4_ af0_ af1_ af2_ af3_ af4_ an_ am_ al_ c0_ c1_ c2_ c3_ cf0_ cf1_ cf2_ cf3_ cn_ cm_ cl_
    clear hv5 Hz5 Ha5 Hc5 HB5
    obtain ⟨z0_, z1_, z2_, z3_, z4_, -⟩ := at5 Xz
    refine bodyPost_ret (v := .agg #[.int .u64 r, .int .u64 n, .int .u64 f, .int .u64 (a + tA), .int .u64 (b + tB)]) (by simp [results, Try.results18, go_sem, z0_, z1_, z2_, z3_, z4_]) rfl ⟨rfl, XB⟩
  · rw [show MO.tick ⟨r, n, f, a, b⟩ x = ⟨0, 0, 0, 0, 0⟩ from if_neg hok]
    have hne : mor r n f a b ≠ 0 := fun x => hok (mor_ok.1 x)
    have gne : (mor r n f a b != 0) = true := by simp [hne]
    generalize mor r n f a b = er at *
    simp only [mo_val]
    clear hok
    go_enter Try.func18, Try.ntmps18
    go_wp2_with fail
    refine cl_gen ?_
    intro v0 hv0
    have XB : Below w.heap.size w v0 := by
      rw [hv0]
      (repeat' (first | (with_reducible exact Below.refl _ _) | (with_reducible assumption) | (with_reducible refine below_drewN _ ?_) | (with_reducible refine Below.drew ?_) | (with_reducible refine Below.setCell ?_ (by simp) _) | (with_reducible refine Below.alloc ?_ (by simp; try omega) _)))
    have Xa : v0.heap[w.heap.size]? = some (.cells #[.int .u64 r, .int .u64 n, .int .u64 f, .int .u64 a, .int .u64 b] 24 (0, 0)) := by
      rw [hv0]
      (repeat' (first | (with_reducible exact heap_alloc_new _ _) | (with_reducible exact blk_new (by first | (simp; done) | omega)) | (with_reducible refine blk_drew ?_) | (with_reducible apply put5_0) | (with_reducible apply put5_1) | (with_reducible apply put5_2) | (with_reducible apply put5_3) | (with_reducible apply put5_4) | (with_reducible refine blk_else (by omega) ?_) | (with_reducible refine blk_old ?_)))
    have Xz : v0.heap[w.heap.size + 1]? = some (.cells #[.int .u64 0, .int .u64 0, .int .u64 0, .int .u64 0, .int .u64 0] 24 (0, 0)) := by
      rw [hv0]
      (repeat' (first | (with_reducible exact heap_alloc_new _ _) | (with_reducible exact blk_new (by first | (simp; done) | omega)) | (with_reducible refine blk_drew ?_) | (with_reducible apply put5_0) | (with_reducible apply put5_1) | (with_reducible apply put5_2) | (with_reducible apply put5_3) | (with_reducible apply put5_4) | (with_reducible refine blk_else (by omega) ?_) | (with_reducible refine blk_old ?_)))
    obtain ⟨Bz, hBz⟩ : ∃ x, x = w.heap.size + 1 := ⟨_, rfl⟩
    rw [← hBz] at Xz
    try rw [← hBz]
    have lez : w.heap.size ≤ Bz := by omega
    obtain ⟨Ba, hBa⟩ : ∃ x, x = w.heap.size := ⟨_, rfl⟩
    rw [← hBa] at Xa
    try rw [← hBa]
    have naz : ¬ Ba = Bz := by omega
    have nza : ¬ Bz = Ba := fun h => naz h.symm
    have lea : w.heap.size ≤ Ba := by omega
    clear hBa hBz
    clear hv0
    refine (MY.out _).mono ?_
    rintro e w1 ⟨rfl, bb⟩
    have Hz1 := Lib.hid (blk_call bb Xz)
    have Ha1 := Lib.hid (blk_call bb Xa)
    have HB1 := Lib.hid (bel_onto XB bb XB.size)
    clear Xz Xa XB bb
    obtain ⟨z0_, z1_, z2_, z3_, z4_, zf0_, zf1_, zf2_, zf3_, zf4_⟩ := at5 Hz1.out
    have zn_ := ne_blk Hz1.out
    have zm_ := Ne.symm (a := Bz) zn_
    have zl_ := lt_blk Hz1.out
    obtain ⟨a0_, a1_, a2_, a3_, a4_, af0_, af1_, af2_, af3_, af4_⟩ := at5 Ha1.out
    have an_ := ne_blk Ha1.out
    have am_ := Ne.symm (a := Ba) an_
    have al_ := lt_blk Ha1.out
    go_wp2
    (try simp only [Exit.inBlock, Exit.then])
    refine bp_gen ?_
    intro v1 hv1
    have Xz : v1.heap[Bz]? = some (.cells #[.int .u64 0, .int .u64 0, .int .u64 0, .int .u64 0, .int .u64 0] 24 (0, 0)) := by
      rw [hv1]
      (repeat' (first | (with_reducible exact Hz1.out) | (with_reducible exact heap_alloc_new _ _) | (with_reducible exact blk_new (by first | (simp; done) | omega)) | (with_reducible refine blk_drew ?_) | (with_reducible apply put5_0) | (with_reducible apply put5_1) | (with_reducible apply put5_2) | (with_reducible apply put5_3) | (with_reducible apply put5_4) | (with_reducible refine blk_else (by omega) ?_) | (with_reducible refine blk_old ?_)))
    have XB : Below w.heap.size w v1 := by
      rw [hv1]
      (repeat' (first | (with_reducible exact HB1.out) | (with_reducible exact Below.refl _ _) | (with_reducible refine below_drewN _ ?_) | (with_reducible refine Below.drew ?_) | (with_reducible refine Below.setCell ?_ (by first | (simp; done) | omega) _) | (with_reducible refine Below.alloc ?_ (by have := HB1.out.size; simp; omega) _)))
    clear z0_ z1_ z2_ z3_ z4_ zf0_ zf1_ zf2_ zf3_ zf4_ zn_ zm_ zl_ a0_ a1_ a2_ a3_ a4_ af0_ af1_ af2_ af3_ af4_ an_ am_ al_
    clear hv1 Hz1 Ha1 HB1
    obtain ⟨z0_, z1_, z2_, z3_, z4_, -⟩ := at5 Xz
    refine bodyPost_ret (v := .agg #[.int .u64 0, .int .u64 0, .int .u64 0, .int .u64 0, .int .u64 0]) (by simp [results, Try.results18, go_sem, z0_, z1_, z2_, z3_, z4_]) rfl ⟨rfl, XB⟩
end Go.Proofs.Ytmkgadndfiiacaa
