/-
  What package bucket's Take, Wait and New, and the document's answer's, return for any bucket. No condition but that the numbers are words.
-/
import Derived.Test.YtgmdhanbeafagaaBk1
import Derived.Test.YtgmdhanbeafagaaRef1b
namespace Go.Proofs.Ytgmdhanbeafagaa
set_option linter.unusedVariables false
set_option linter.unusedSimpArgs false
open Go.ChangeShapes Go.WideShapes Go.ChangeAt Go.RowKit
attribute [local go_sem] alloc_drewN setCell_drewN

set_option maxRecDepth 100000 in
set_option maxHeartbeats 1000000 in
theorem bk_tick (s : BK) (hs : s.wd) (x : Int) (x0 : 0 ≤ x) (x1 : x ≤ 18446744073709551615) (w : World) :
    Calls Try.prog 24 #[s.val, .int .u64 x] w fun e w' => e = .returned (s.tick x).val ∧ Below w.heap.size w w' := by
  obtain ⟨⟨r0, r1⟩, ⟨b0, b1⟩, t0, t1⟩ := hs
  obtain ⟨r, b, t⟩ := s
  unfold BK.val BK.tick
  dsimp only at r0 r1 b0 b1 t0 t1 ⊢
  have CK := Lib.hid (fun W => bk_check r b t W)
  by_cases hok : BK.ok ⟨r, b, t⟩
  · rw [if_pos hok]
    rw [bck_ok.2 hok] at CK
    (try dsimp only)
    have MA : Hid (∀ W, Calls Try.prog 71 #[.int .u64 t, .int .u64 r, .int .u64 x] W (fun e w' => e = .returned (.int .u64 (cap (t + r * x))) ∧ w' = W)) := Lib.hid (fun W => (sat_muladd t r x t0 t1 r0 r1 x0 x1 W).mono fun e w' h => ⟨h.1, h.2.symm⟩)
    have m1 : 0 ≤ t + r * x := by have := Int.mul_nonneg r0 x0; omega
    have e : min (cap (t + r * x)) b = min (t + r * x) b := by unfold cap; split <;> omega
    generalize cap (t + r * x) = c at *
    generalize min (t + r * x) b = z at *
    clear hok m1
    by_cases h : c ≤ b
    · obtain rfl : z = c := by omega
      clear e
      go_enter Try.func24, Try.ntmps24
      go_wp2_with fail
      refine (CK.out _).mono ?_
      rintro e w' ⟨rfl, rfl⟩
      go_wp2
      refine wp_genc ?_
      intro v hv
      have X0 : v.heap[w.heap.size]? = some (.cells #[.int .u64 r, .int .u64 b, .int .u64 t] 25 (0, 0)) := by
        rw [hv]
        (repeat' (first | (with_reducible exact heap_alloc_new _ _) | (with_reducible exact blk_new (by first | (simp; done) | omega)) | (with_reducible refine blk_drew ?_) | (with_reducible apply put1_0) | (with_reducible apply put2_0) | (with_reducible apply put2_1) | (with_reducible apply put3_0) | (with_reducible apply put3_1) | (with_reducible apply put3_2) | (with_reducible apply put4_0) | (with_reducible apply put4_1) | (with_reducible apply put4_2) | (with_reducible apply put4_3) | (with_reducible apply put5_0) | (with_reducible apply put5_1) | (with_reducible apply put5_2) | (with_reducible apply put5_3) | (with_reducible apply put5_4) | (with_reducible apply put6_0) | (with_reducible apply put6_1) | (with_reducible apply put6_2) | (with_reducible apply put6_3) | (with_reducible apply put6_4) | (with_reducible apply put6_5) | (with_reducible refine blk_else (by omega) ?_) | (with_reducible refine blk_old ?_)))
      have X1 : v.heap[w.heap.size + 1]? = some (.cells #[.int .u64 0, .int .u64 0, .int .u64 0] 25 (0, 0)) := by
        rw [hv]
        (repeat' (first | (with_reducible exact heap_alloc_new _ _) | (with_reducible exact blk_new (by first | (simp; done) | omega)) | (with_reducible refine blk_drew ?_) | (with_reducible apply put1_0) | (with_reducible apply put2_0) | (with_reducible apply put2_1) | (with_reducible apply put3_0) | (with_reducible apply put3_1) | (with_reducible apply put3_2) | (with_reducible apply put4_0) | (with_reducible apply put4_1) | (with_reducible apply put4_2) | (with_reducible apply put4_3) | (with_reducible apply put5_0) | (with_reducible apply put5_1) | (with_reducible apply put5_2) | (with_reducible apply put5_3) | (with_reducible apply put5_4) | (with_reducible apply put6_0) | (with_reducible apply put6_1) | (with_reducible apply put6_2) | (with_reducible apply put6_3) | (with_reducible apply put6_4) | (with_reducible apply put6_5) | (with_reducible refine blk_else (by omega) ?_) | (with_reducible refine blk_old ?_)))
      have Bv : Below w.heap.size w v := by
        rw [hv]
        (repeat' (first | exact Below.refl _ _ | (with_reducible assumption) | refine below_drewN _ ?_ | refine Below.drew ?_ | refine Below.setCell ?_ (by simp) _ | refine Below.alloc ?_ (by simp; try omega) _))
      clear hv
      obtain ⟨a0_, a1_, a2_, f0_, f1_, f2_⟩ := at3 X0
      obtain ⟨c0_, c1_, c2_, d0_, d1_, d2_⟩ := at3 X1
      have HV := Lib.hid Bv
      have HX0 := Lib.hid X0; have HX1 := Lib.hid X1
      clear X0 X1 Bv
      refine wp_region_still_tail 9 (by kernel_rfl) (by kernel_rfl) ?_
      simp only [List.take_succ_cons, List.take_zero, List.drop_succ_cons, List.drop_zero]
      repeat still_step
      still_call (MA.out _)
      repeat still_step
      refine wpStill_nil ?_
      change wpList _ _ _ _ _ (World.drew _)
      go_wp2
      (try simp only [Exit.inBlock, Exit.then])
      refine bp_gen ?_
      intro vz hvz
      have Z : vz.heap[(w.heap.size + 1)]? = some (.cells #[.int .u64 r, .int .u64 b, .int .u64 z] 25 (0, 0)) := by
        rw [hvz]
        (repeat' (first | (with_reducible exact HX0.out) | (with_reducible exact HX1.out) | (with_reducible exact heap_alloc_new _ _) | (with_reducible exact blk_new (by first | (simp; done) | omega)) | (with_reducible refine blk_drew ?_) | (with_reducible apply put1_0) | (with_reducible apply put2_0) | (with_reducible apply put2_1) | (with_reducible apply put3_0) | (with_reducible apply put3_1) | (with_reducible apply put3_2) | (with_reducible apply put4_0) | (with_reducible apply put4_1) | (with_reducible apply put4_2) | (with_reducible apply put4_3) | (with_reducible apply put5_0) | (with_reducible apply put5_1) | (with_reducible apply put5_2) | (with_reducible apply put5_3) | (with_reducible apply put5_4) | (with_reducible apply put6_0) | (with_reducible apply put6_1) | (with_reducible apply put6_2) | (with_reducible apply put6_3) | (with_reducible apply put6_4) | (with_reducible apply put6_5) | (with_reducible refine blk_else (by omega) ?_) | (with_reducible refine blk_old ?_)))
      have BZ : Below w.heap.size w vz := by
        rw [hvz]
        (repeat' (first | (with_reducible exact HV.out) | exact Below.refl _ _ | refine below_drewN _ ?_ | refine Below.drew ?_ | refine Below.setCell ?_ (by first | (simp; done) | omega) _ | refine Below.alloc ?_ (by have := HV.out.size; simp; omega) _))
      obtain ⟨z0_, z1_, z2_, -⟩ := at3 Z
      refine bodyPost_ret (v := .agg #[.int .u64 r, .int .u64 b, .int .u64 z]) (by simp [results, Try.results24, go_sem, z0_, z1_, z2_]) rfl ⟨rfl, BZ⟩
    · obtain rfl : z = b := by omega
      have h' : z < c := by omega
      clear e h
      go_enter Try.func24, Try.ntmps24
      go_wp2_with fail
      refine (CK.out _).mono ?_
      rintro e w' ⟨rfl, rfl⟩
      go_wp2
      refine wp_genc ?_
      intro v hv
      have X0 : v.heap[w.heap.size]? = some (.cells #[.int .u64 r, .int .u64 z, .int .u64 t] 25 (0, 0)) := by
        rw [hv]
        (repeat' (first | (with_reducible exact heap_alloc_new _ _) | (with_reducible exact blk_new (by first | (simp; done) | omega)) | (with_reducible refine blk_drew ?_) | (with_reducible apply put1_0) | (with_reducible apply put2_0) | (with_reducible apply put2_1) | (with_reducible apply put3_0) | (with_reducible apply put3_1) | (with_reducible apply put3_2) | (with_reducible apply put4_0) | (with_reducible apply put4_1) | (with_reducible apply put4_2) | (with_reducible apply put4_3) | (with_reducible apply put5_0) | (with_reducible apply put5_1) | (with_reducible apply put5_2) | (with_reducible apply put5_3) | (with_reducible apply put5_4) | (with_reducible apply put6_0) | (with_reducible apply put6_1) | (with_reducible apply put6_2) | (with_reducible apply put6_3) | (with_reducible apply put6_4) | (with_reducible apply put6_5) | (with_reducible refine blk_else (by omega) ?_) | (with_reducible refine blk_old ?_)))
      have X1 : v.heap[w.heap.size + 1]? = some (.cells #[.int .u64 0, .int .u64 0, .int .u64 0] 25 (0, 0)) := by
        rw [hv]
        (repeat' (first | (with_reducible exact heap_alloc_new _ _) | (with_reducible exact blk_new (by first | (simp; done) | omega)) | (with_reducible refine blk_drew ?_) | (with_reducible apply put1_0) | (with_reducible apply put2_0) | (with_reducible apply put2_1) | (with_reducible apply put3_0) | (with_reducible apply put3_1) | (with_reducible apply put3_2) | (with_reducible apply put4_0) | (with_reducible apply put4_1) | (with_reducible apply put4_2) | (with_reducible apply put4_3) | (with_reducible apply put5_0) | (with_reducible apply put5_1) | (with_reducible apply put5_2) | (with_reducible apply put5_3) | (with_reducible apply put5_4) | (with_reducible apply put6_0) | (with_reducible apply put6_1) | (with_reducible apply put6_2) | (with_reducible apply put6_3) | (with_reducible apply put6_4) | (with_reducible apply put6_5) | (with_reducible refine blk_else (by omega) ?_) | (with_reducible refine blk_old ?_)))
      have Bv : Below w.heap.size w v := by
        rw [hv]
        (repeat' (first | exact Below.refl _ _ | (with_reducible assumption) | refine below_drewN _ ?_ | refine Below.drew ?_ | refine Below.setCell ?_ (by simp) _ | refine Below.alloc ?_ (by simp; try omega) _))
      clear hv
      obtain ⟨a0_, a1_, a2_, f0_, f1_, f2_⟩ := at3 X0
      obtain ⟨c0_, c1_, c2_, d0_, d1_, d2_⟩ := at3 X1
      have HV := Lib.hid Bv
      have HX0 := Lib.hid X0; have HX1 := Lib.hid X1
      clear X0 X1 Bv
      refine wp_region_still_tail 9 (by kernel_rfl) (by kernel_rfl) ?_
      simp only [List.take_succ_cons, List.take_zero, List.drop_succ_cons, List.drop_zero]
      repeat still_step
      still_call (MA.out _)
      repeat still_step
      refine wpStill_nil ?_
      change wpList _ _ _ _ _ (World.drew _)
      go_wp2
      (try simp only [Exit.inBlock, Exit.then])
      refine bp_gen ?_
      intro vz hvz
      have Z : vz.heap[(w.heap.size + 1)]? = some (.cells #[.int .u64 r, .int .u64 z, .int .u64 z] 25 (0, 0)) := by
        rw [hvz]
        (repeat' (first | (with_reducible exact HX0.out) | (with_reducible exact HX1.out) | (with_reducible exact heap_alloc_new _ _) | (with_reducible exact blk_new (by first | (simp; done) | omega)) | (with_reducible refine blk_drew ?_) | (with_reducible apply put1_0) | (with_reducible apply put2_0) | (with_reducible apply put2_1) | (with_reducible apply put3_0) | (with_reducible apply put3_1) | (with_reducible apply put3_2) | (with_reducible apply put4_0) | (with_reducible apply put4_1) | (with_reducible apply put4_2) | (with_reducible apply put4_3) | (with_reducible apply put5_0) | (with_reducible apply put5_1) | (with_reducible apply put5_2) | (with_reducible apply put5_3) | (with_reducible apply put5_4) | (with_reducible apply put6_0) | (with_reducible apply put6_1) | (with_reducible apply put6_2) | (with_reducible apply put6_3) | (with_reducible apply put6_4) | (with_reducible apply put6_5) | (with_reducible refine blk_else (by omega) ?_) | (with_reducible refine blk_old ?_)))
      have BZ : Below w.heap.size w vz := by
        rw [hvz]
        (repeat' (first | (with_reducible exact HV.out) | exact Below.refl _ _ | refine below_drewN _ ?_ | refine Below.drew ?_ | refine Below.setCell ?_ (by first | (simp; done) | omega) _ | refine Below.alloc ?_ (by have := HV.out.size; simp; omega) _))
      obtain ⟨z0_, z1_, z2_, -⟩ := at3 Z
      refine bodyPost_ret (v := .agg #[.int .u64 r, .int .u64 z, .int .u64 z]) (by simp [results, Try.results24, go_sem, z0_, z1_, z2_]) rfl ⟨rfl, BZ⟩
  · rw [if_neg hok]
    have hk : bck r b t ≠ 0 := fun h => hok (bck_ok.1 h)
    generalize bck r b t = k at *
    have g : (k != 0) = true := by simp [hk]
    clear hok hk
    (try dsimp only)
    go_enter Try.func24, Try.ntmps24
    go_wp2_with fail
    refine (CK.out _).mono ?_
    rintro e w' ⟨rfl, rfl⟩
    go_wp2
    (try simp only [Exit.inBlock, Exit.then])
    refine bodyPost_ret (v := .agg #[.int .u64 0, .int .u64 0, .int .u64 0]) (by simp [results, Try.results24, go_sem]) rfl ⟨rfl, ?_⟩
    (repeat' (first | exact Below.refl _ _ | (with_reducible assumption) | refine below_drewN _ ?_ | refine Below.drew ?_ | refine Below.setCell ?_ (by simp) _ | refine Below.alloc ?_ (by simp; try omega) _))
set_option maxRecDepth 100000 in
set_option maxHeartbeats 1000000 in
theorem bk_rtick (s : BK) (hs : s.wd) (x : Int) (x0 : 0 ≤ x) (x1 : x ≤ 18446744073709551615) (w : World) :
    Calls Try.prog 25 #[s.val, .int .u64 x] w fun e w' => e = .returned (s.tick x).val ∧ Below w.heap.size w w' := by
  obtain ⟨⟨r0, r1⟩, ⟨b0, b1⟩, t0, t1⟩ := hs
  obtain ⟨r, b, t⟩ := s
  unfold BK.val BK.tick
  dsimp only at r0 r1 b0 b1 t0 t1 ⊢
  have CK := Lib.hid (fun W => bk_rcheck r b t W)
  by_cases hok : BK.ok ⟨r, b, t⟩
  · rw [if_pos hok]
    rw [bck_ok.2 hok] at CK
    (try dsimp only)
    have MA := Lib.hid (fun W => muladd_ref t r x t0 t1 r0 r1 x0 x1 W)
    have m1 : 0 ≤ t + r * x := by have := Int.mul_nonneg r0 x0; omega
    by_cases h : cap (t + r * x) ≤ b
    · have e : min (t + r * x) b = cap (t + r * x) := by unfold cap at h ⊢; split at h <;> split <;> omega
      rw [e]
      generalize cap (t + r * x) = c at *
      clear hok m1 e
      go_enter Try.func25, Try.ntmps25
      go_wp2_with fail
      refine (CK.out _).mono ?_
      rintro e w' ⟨rfl, rfl⟩
      go_wp2_with (fail)
      refine cl_gen ?_
      intro v hv
      have X0 : v.heap[w.heap.size]? = some (.cells #[.int .u64 r, .int .u64 b, .int .u64 t] 24 (0, 0)) := by
        rw [hv]
        (repeat' (first | (with_reducible exact heap_alloc_new _ _) | (with_reducible exact blk_new (by first | (simp; done) | omega)) | (with_reducible refine blk_drew ?_) | (with_reducible apply put1_0) | (with_reducible apply put2_0) | (with_reducible apply put2_1) | (with_reducible apply put3_0) | (with_reducible apply put3_1) | (with_reducible apply put3_2) | (with_reducible apply put4_0) | (with_reducible apply put4_1) | (with_reducible apply put4_2) | (with_reducible apply put4_3) | (with_reducible apply put5_0) | (with_reducible apply put5_1) | (with_reducible apply put5_2) | (with_reducible apply put5_3) | (with_reducible apply put5_4) | (with_reducible apply put6_0) | (with_reducible apply put6_1) | (with_reducible apply put6_2) | (with_reducible apply put6_3) | (with_reducible apply put6_4) | (with_reducible apply put6_5) | (with_reducible refine blk_else (by omega) ?_) | (with_reducible refine blk_old ?_)))
      have X1 : v.heap[w.heap.size + 1]? = some (.cells #[.int .u64 0, .int .u64 0, .int .u64 0] 24 (0, 0)) := by
        rw [hv]
        (repeat' (first | (with_reducible exact heap_alloc_new _ _) | (with_reducible exact blk_new (by first | (simp; done) | omega)) | (with_reducible refine blk_drew ?_) | (with_reducible apply put1_0) | (with_reducible apply put2_0) | (with_reducible apply put2_1) | (with_reducible apply put3_0) | (with_reducible apply put3_1) | (with_reducible apply put3_2) | (with_reducible apply put4_0) | (with_reducible apply put4_1) | (with_reducible apply put4_2) | (with_reducible apply put4_3) | (with_reducible apply put5_0) | (with_reducible apply put5_1) | (with_reducible apply put5_2) | (with_reducible apply put5_3) | (with_reducible apply put5_4) | (with_reducible apply put6_0) | (with_reducible apply put6_1) | (with_reducible apply put6_2) | (with_reducible apply put6_3) | (with_reducible apply put6_4) | (with_reducible apply put6_5) | (with_reducible refine blk_else (by omega) ?_) | (with_reducible refine blk_old ?_)))
      have Bv : Below w.heap.size w v := by
        rw [hv]
        (repeat' (first | exact Below.refl _ _ | (with_reducible assumption) | refine below_drewN _ ?_ | refine Below.drew ?_ | refine Below.setCell ?_ (by simp) _ | refine Below.alloc ?_ (by simp; try omega) _))
      clear hv
      refine (MA.out _).mono ?_
      rintro e w5 ⟨rfl, b5⟩
      have HX0 := Lib.hid (blk_call b5 X0)
      have HX1 := Lib.hid (blk_call b5 X1)
      have HV := Lib.hid (bel_onto Bv b5 Bv.size)
      clear b5 X0 X1 Bv
      obtain ⟨a0_, a1_, a2_, f0_, f1_, f2_⟩ := at3 HX0.out
      obtain ⟨c0_, c1_, c2_, d0_, d1_, d2_⟩ := at3 HX1.out
      go_wp2
      (try simp only [Exit.inBlock, Exit.then])
      refine bp_gen ?_
      intro vz hvz
      have Z : vz.heap[(w.heap.size + 1)]? = some (.cells #[.int .u64 r, .int .u64 b, .int .u64 c] 24 (0, 0)) := by
        rw [hvz]
        (repeat' (first | (with_reducible exact HX0.out) | (with_reducible exact HX1.out) | (with_reducible exact heap_alloc_new _ _) | (with_reducible exact blk_new (by first | (simp; done) | omega)) | (with_reducible refine blk_drew ?_) | (with_reducible apply put1_0) | (with_reducible apply put2_0) | (with_reducible apply put2_1) | (with_reducible apply put3_0) | (with_reducible apply put3_1) | (with_reducible apply put3_2) | (with_reducible apply put4_0) | (with_reducible apply put4_1) | (with_reducible apply put4_2) | (with_reducible apply put4_3) | (with_reducible apply put5_0) | (with_reducible apply put5_1) | (with_reducible apply put5_2) | (with_reducible apply put5_3) | (with_reducible apply put5_4) | (with_reducible apply put6_0) | (with_reducible apply put6_1) | (with_reducible apply put6_2) | (with_reducible apply put6_3) | (with_reducible apply put6_4) | (with_reducible apply put6_5) | (with_reducible refine blk_else (by omega) ?_) | (with_reducible refine blk_old ?_)))
      have BZ : Below w.heap.size w vz := by
        rw [hvz]
        (repeat' (first | (with_reducible exact HV.out) | exact Below.refl _ _ | refine below_drewN _ ?_ | refine Below.drew ?_ | refine Below.setCell ?_ (by first | (simp; done) | omega) _ | refine Below.alloc ?_ (by have := HV.out.size; simp; omega) _))
      obtain ⟨z0_, z1_, z2_, -⟩ := at3 Z
      refine bodyPost_ret (v := .agg #[.int .u64 r, .int .u64 b, .int .u64 c]) (by simp [results, Try.results25, go_sem, z0_, z1_, z2_]) rfl ⟨rfl, BZ⟩
    · have e : min (t + r * x) b = b := by unfold cap at h; split at h <;> omega
      rw [e]
      generalize cap (t + r * x) = c at *
      have h' : b < c := by omega
      clear hok m1 e h
      go_enter Try.func25, Try.ntmps25
      go_wp2_with fail
      refine (CK.out _).mono ?_
      rintro e w' ⟨rfl, rfl⟩
      go_wp2_with (fail)
      refine cl_gen ?_
      intro v hv
      have X0 : v.heap[w.heap.size]? = some (.cells #[.int .u64 r, .int .u64 b, .int .u64 t] 24 (0, 0)) := by
        rw [hv]
        (repeat' (first | (with_reducible exact heap_alloc_new _ _) | (with_reducible exact blk_new (by first | (simp; done) | omega)) | (with_reducible refine blk_drew ?_) | (with_reducible apply put1_0) | (with_reducible apply put2_0) | (with_reducible apply put2_1) | (with_reducible apply put3_0) | (with_reducible apply put3_1) | (with_reducible apply put3_2) | (with_reducible apply put4_0) | (with_reducible apply put4_1) | (with_reducible apply put4_2) | (with_reducible apply put4_3) | (with_reducible apply put5_0) | (with_reducible apply put5_1) | (with_reducible apply put5_2) | (with_reducible apply put5_3) | (with_reducible apply put5_4) | (with_reducible apply put6_0) | (with_reducible apply put6_1) | (with_reducible apply put6_2) | (with_reducible apply put6_3) | (with_reducible apply put6_4) | (with_reducible apply put6_5) | (with_reducible refine blk_else (by omega) ?_) | (with_reducible refine blk_old ?_)))
      have X1 : v.heap[w.heap.size + 1]? = some (.cells #[.int .u64 0, .int .u64 0, .int .u64 0] 24 (0, 0)) := by
        rw [hv]
        (repeat' (first | (with_reducible exact heap_alloc_new _ _) | (with_reducible exact blk_new (by first | (simp; done) | omega)) | (with_reducible refine blk_drew ?_) | (with_reducible apply put1_0) | (with_reducible apply put2_0) | (with_reducible apply put2_1) | (with_reducible apply put3_0) | (with_reducible apply put3_1) | (with_reducible apply put3_2) | (with_reducible apply put4_0) | (with_reducible apply put4_1) | (with_reducible apply put4_2) | (with_reducible apply put4_3) | (with_reducible apply put5_0) | (with_reducible apply put5_1) | (with_reducible apply put5_2) | (with_reducible apply put5_3) | (with_reducible apply put5_4) | (with_reducible apply put6_0) | (with_reducible apply put6_1) | (with_reducible apply put6_2) | (with_reducible apply put6_3) | (with_reducible apply put6_4) | (with_reducible apply put6_5) | (with_reducible refine blk_else (by omega) ?_) | (with_reducible refine blk_old ?_)))
      have Bv : Below w.heap.size w v := by
        rw [hv]
        (repeat' (first | exact Below.refl _ _ | (with_reducible assumption) | refine below_drewN _ ?_ | refine Below.drew ?_ | refine Below.setCell ?_ (by simp) _ | refine Below.alloc ?_ (by simp; try omega) _))
      clear hv
      refine (MA.out _).mono ?_
      rintro e w5 ⟨rfl, b5⟩
      have HX0 := Lib.hid (blk_call b5 X0)
      have HX1 := Lib.hid (blk_call b5 X1)
      have HV := Lib.hid (bel_onto Bv b5 Bv.size)
      clear b5 X0 X1 Bv
      obtain ⟨a0_, a1_, a2_, f0_, f1_, f2_⟩ := at3 HX0.out
      obtain ⟨c0_, c1_, c2_, d0_, d1_, d2_⟩ := at3 HX1.out
      go_wp2
      (try simp only [Exit.inBlock, Exit.then])
      refine bp_gen ?_
      intro vz hvz
      have Z : vz.heap[(w.heap.size + 1)]? = some (.cells #[.int .u64 r, .int .u64 b, .int .u64 b] 24 (0, 0)) := by
        rw [hvz]
        (repeat' (first | (with_reducible exact HX0.out) | (with_reducible exact HX1.out) | (with_reducible exact heap_alloc_new _ _) | (with_reducible exact blk_new (by first | (simp; done) | omega)) | (with_reducible refine blk_drew ?_) | (with_reducible apply put1_0) | (with_reducible apply put2_0) | (with_reducible apply put2_1) | (with_reducible apply put3_0) | (with_reducible apply put3_1) | (with_reducible apply put3_2) | (with_reducible apply put4_0) | (with_reducible apply put4_1) | (with_reducible apply put4_2) | (with_reducible apply put4_3) | (with_reducible apply put5_0) | (with_reducible apply put5_1) | (with_reducible apply put5_2) | (with_reducible apply put5_3) | (with_reducible apply put5_4) | (with_reducible apply put6_0) | (with_reducible apply put6_1) | (with_reducible apply put6_2) | (with_reducible apply put6_3) | (with_reducible apply put6_4) | (with_reducible apply put6_5) | (with_reducible refine blk_else (by omega) ?_) | (with_reducible refine blk_old ?_)))
      have BZ : Below w.heap.size w vz := by
        rw [hvz]
        (repeat' (first | (with_reducible exact HV.out) | exact Below.refl _ _ | refine below_drewN _ ?_ | refine Below.drew ?_ | refine Below.setCell ?_ (by first | (simp; done) | omega) _ | refine Below.alloc ?_ (by have := HV.out.size; simp; omega) _))
      obtain ⟨z0_, z1_, z2_, -⟩ := at3 Z
      refine bodyPost_ret (v := .agg #[.int .u64 r, .int .u64 b, .int .u64 b]) (by simp [results, Try.results25, go_sem, z0_, z1_, z2_]) rfl ⟨rfl, BZ⟩
  · rw [if_neg hok]
    have hk : bck r b t ≠ 0 := fun h => hok (bck_ok.1 h)
    generalize bck r b t = k at *
    have g : (k != 0) = true := by simp [hk]
    clear hok hk
    (try dsimp only)
    go_enter Try.func25, Try.ntmps25
    go_wp2_with fail
    refine (CK.out _).mono ?_
    rintro e w' ⟨rfl, rfl⟩
    go_wp2
    (try simp only [Exit.inBlock, Exit.then])
    refine bodyPost_ret (v := .agg #[.int .u64 0, .int .u64 0, .int .u64 0]) (by simp [results, Try.results25, go_sem]) rfl ⟨rfl, ?_⟩
    (repeat' (first | exact Below.refl _ _ | (with_reducible assumption) | refine below_drewN _ ?_ | refine Below.drew ?_ | refine Below.setCell ?_ (by simp) _ | refine Below.alloc ?_ (by simp; try omega) _))
theorem bk_take (s : BK) (hs : s.wd) (n : Int) (n0 : 0 ≤ n) (n1 : n ≤ 18446744073709551615) (w : World) :
    Calls Try.prog 17 #[s.val, .int .u64 n] w fun e w' => e = .returned (.tuple #[(s.take n).1.val, .bool (s.take n).2]) ∧ Below w.heap.size w w' := by
  obtain ⟨⟨r0, r1⟩, ⟨b0, b1⟩, t0, t1⟩ := hs
  obtain ⟨r, b, t⟩ := s
  unfold BK.val BK.take
  dsimp only at r0 r1 b0 b1 t0 t1 ⊢
  have CK := Lib.hid (fun W => bk_check r b t W)
  by_cases hok : BK.ok ⟨r, b, t⟩
  · rw [if_pos hok]
    rw [bck_ok.2 hok] at CK
    (try dsimp only)
    clear hok
    by_cases h : t < n
    · rw [if_pos h]
      (try dsimp only)
      go_enter Try.func17, Try.ntmps17
      go_wp2_with fail
      refine (CK.out _).mono ?_
      rintro e w' ⟨rfl, rfl⟩
      go_wp2
      (try simp only [Exit.inBlock, Exit.then])
      refine bodyPost_ret (v := .tuple #[.agg #[.int .u64 r, .int .u64 b, .int .u64 t], .bool false]) (by simp [results, Try.results17, go_sem]) rfl ⟨rfl, ?_⟩
      (repeat' (first | exact Below.refl _ _ | (with_reducible assumption) | refine below_drewN _ ?_ | refine Below.drew ?_ | refine Below.setCell ?_ (by simp) _ | refine Below.alloc ?_ (by simp; try omega) _))
    · rw [if_neg h]
      have h' : n ≤ t := by omega
      clear h
      (try dsimp only)
      go_enter Try.func17, Try.ntmps17
      go_wp2_with fail
      refine (CK.out _).mono ?_
      rintro e w' ⟨rfl, rfl⟩
      go_wp2
      (try simp only [Exit.inBlock, Exit.then])
      refine bodyPost_ret (v := .tuple #[.agg #[.int .u64 r, .int .u64 b, .int .u64 (t - n)], .bool true]) (by simp [results, Try.results17, go_sem]) rfl ⟨rfl, ?_⟩
      (repeat' (first | exact Below.refl _ _ | (with_reducible assumption) | refine below_drewN _ ?_ | refine Below.drew ?_ | refine Below.setCell ?_ (by simp) _ | refine Below.alloc ?_ (by simp; try omega) _))
  · rw [if_neg hok]
    have hk : bck r b t ≠ 0 := fun h => hok (bck_ok.1 h)
    generalize bck r b t = k at *
    have g : (k != 0) = true := by simp [hk]
    clear hok hk
    (try dsimp only)
    go_enter Try.func17, Try.ntmps17
    go_wp2_with fail
    refine (CK.out _).mono ?_
    rintro e w' ⟨rfl, rfl⟩
    go_wp2
    (try simp only [Exit.inBlock, Exit.then])
    refine bodyPost_ret (v := .tuple #[.agg #[.int .u64 0, .int .u64 0, .int .u64 0], .bool false]) (by simp [results, Try.results17, go_sem]) rfl ⟨rfl, ?_⟩
    (repeat' (first | exact Below.refl _ _ | (with_reducible assumption) | refine below_drewN _ ?_ | refine Below.drew ?_ | refine Below.setCell ?_ (by simp) _ | refine Below.alloc ?_ (by simp; try omega) _))
theorem bk_rtake (s : BK) (hs : s.wd) (n : Int) (n0 : 0 ≤ n) (n1 : n ≤ 18446744073709551615) (w : World) :
    Calls Try.prog 18 #[s.val, .int .u64 n] w fun e w' => e = .returned (.tuple #[(s.take n).1.val, .bool (s.take n).2]) ∧ Below w.heap.size w w' := by
  obtain ⟨⟨r0, r1⟩, ⟨b0, b1⟩, t0, t1⟩ := hs
  obtain ⟨r, b, t⟩ := s
  unfold BK.val BK.take
  dsimp only at r0 r1 b0 b1 t0 t1 ⊢
  have CK := Lib.hid (fun W => bk_rcheck r b t W)
  by_cases hok : BK.ok ⟨r, b, t⟩
  · rw [if_pos hok]
    rw [bck_ok.2 hok] at CK
    (try dsimp only)
    clear hok
    by_cases h : t < n
    · rw [if_pos h]
      (try dsimp only)
      go_enter Try.func18, Try.ntmps18
      go_wp2_with fail
      refine (CK.out _).mono ?_
      rintro e w' ⟨rfl, rfl⟩
      go_wp2
      (try simp only [Exit.inBlock, Exit.then])
      refine bodyPost_ret (v := .tuple #[.agg #[.int .u64 r, .int .u64 b, .int .u64 t], .bool false]) (by simp [results, Try.results18, go_sem]) rfl ⟨rfl, ?_⟩
      (repeat' (first | exact Below.refl _ _ | (with_reducible assumption) | refine below_drewN _ ?_ | refine Below.drew ?_ | refine Below.setCell ?_ (by simp) _ | refine Below.alloc ?_ (by simp; try omega) _))
    · rw [if_neg h]
      have h' : n ≤ t := by omega
      clear h
      (try dsimp only)
      go_enter Try.func18, Try.ntmps18
      go_wp2_with fail
      refine (CK.out _).mono ?_
      rintro e w' ⟨rfl, rfl⟩
      go_wp2
      (try simp only [Exit.inBlock, Exit.then])
      refine bodyPost_ret (v := .tuple #[.agg #[.int .u64 r, .int .u64 b, .int .u64 (t - n)], .bool true]) (by simp [results, Try.results18, go_sem]) rfl ⟨rfl, ?_⟩
      (repeat' (first | exact Below.refl _ _ | (with_reducible assumption) | refine below_drewN _ ?_ | refine Below.drew ?_ | refine Below.setCell ?_ (by simp) _ | refine Below.alloc ?_ (by simp; try omega) _))
  · rw [if_neg hok]
    have hk : bck r b t ≠ 0 := fun h => hok (bck_ok.1 h)
    generalize bck r b t = k at *
    have g : (k != 0) = true := by simp [hk]
    clear hok hk
    (try dsimp only)
    go_enter Try.func18, Try.ntmps18
    go_wp2_with fail
    refine (CK.out _).mono ?_
    rintro e w' ⟨rfl, rfl⟩
    go_wp2
    (try simp only [Exit.inBlock, Exit.then])
    refine bodyPost_ret (v := .tuple #[.agg #[.int .u64 0, .int .u64 0, .int .u64 0], .bool false]) (by simp [results, Try.results18, go_sem]) rfl ⟨rfl, ?_⟩
    (repeat' (first | exact Below.refl _ _ | (with_reducible assumption) | refine below_drewN _ ?_ | refine Below.drew ?_ | refine Below.setCell ?_ (by simp) _ | refine Below.alloc ?_ (by simp; try omega) _))
set_option maxRecDepth 100000 in
set_option maxHeartbeats 1000000 in
theorem bk_wait (s : BK) (hs : s.wd) (n : Int) (n0 : 0 ≤ n) (n1 : n ≤ 18446744073709551615) (w : World) :
    Calls Try.prog 19 #[s.val, .int .u64 n] w fun e w' => e = .returned (.tuple #[.int .u64 (s.wait n).1, .bool (s.wait n).2]) ∧ Below w.heap.size w w' := by
  obtain ⟨⟨r0, r1⟩, ⟨b0, b1⟩, t0, t1⟩ := hs
  obtain ⟨r, b, t⟩ := s
  unfold BK.val BK.wait
  dsimp only at r0 r1 b0 b1 t0 t1 ⊢
  have CK := Lib.hid (fun W => bk_check r b t W)
  by_cases hok : BK.ok ⟨r, b, t⟩
  · by_cases h : n ≤ b
    · rw [if_pos ⟨hok, h⟩]
      rw [bck_ok.2 hok] at CK
      (try dsimp only)
      have SB : Hid (∀ W, Calls Try.prog 70 #[.int .u64 n, .int .u64 t] W (fun e w' => e = .returned (.int .u64 (sub0 n t)) ∧ w' = W)) := Lib.hid (fun W => (sat_sub n t n0 n1 t0 t1 W).mono fun e w' h => ⟨h.1, h.2.symm⟩)
      have q : 0 ≤ sub0 n t ∧ sub0 n t ≤ 18446744073709551615 := by unfold sub0; split <;> omega
      obtain ⟨q0, q1⟩ := q
      generalize sub0 n t = q at *
      have DU : Hid (∀ W, Calls Try.prog 69 #[.int .u64 q, .int .u64 r] W (fun e w' => e = .returned (.int .u64 (up q r)) ∧ w' = W)) := Lib.hid (fun W => (sat_divup q r q0 q1 r0 r1 W).mono fun e w' h => ⟨h.1, h.2.symm⟩)
      generalize up q r = c at *
      clear hok
      go_enter Try.func19, Try.ntmps19
      go_wp2_with fail
      refine (CK.out _).mono ?_
      rintro e w' ⟨rfl, rfl⟩
      go_wp2
      refine wp_genc ?_
      intro v hv
      have X0 : v.heap[w.heap.size]? = some (.cells #[.int .u64 r, .int .u64 b, .int .u64 t] 25 (0, 0)) := by
        rw [hv]
        (repeat' (first | (with_reducible exact heap_alloc_new _ _) | (with_reducible exact blk_new (by first | (simp; done) | omega)) | (with_reducible refine blk_drew ?_) | (with_reducible apply put1_0) | (with_reducible apply put2_0) | (with_reducible apply put2_1) | (with_reducible apply put3_0) | (with_reducible apply put3_1) | (with_reducible apply put3_2) | (with_reducible apply put4_0) | (with_reducible apply put4_1) | (with_reducible apply put4_2) | (with_reducible apply put4_3) | (with_reducible apply put5_0) | (with_reducible apply put5_1) | (with_reducible apply put5_2) | (with_reducible apply put5_3) | (with_reducible apply put5_4) | (with_reducible apply put6_0) | (with_reducible apply put6_1) | (with_reducible apply put6_2) | (with_reducible apply put6_3) | (with_reducible apply put6_4) | (with_reducible apply put6_5) | (with_reducible refine blk_else (by omega) ?_) | (with_reducible refine blk_old ?_)))
      have Bv : Below w.heap.size w v := by
        rw [hv]
        (repeat' (first | exact Below.refl _ _ | (with_reducible assumption) | refine below_drewN _ ?_ | refine Below.drew ?_ | refine Below.setCell ?_ (by simp) _ | refine Below.alloc ?_ (by simp; try omega) _))
      clear hv
      obtain ⟨a0_, a1_, a2_, -⟩ := at3 X0
      have HV := Lib.hid Bv
      clear X0 Bv
      refine wp_region_still_tail 7 (by kernel_rfl) (by kernel_rfl) ?_
      simp only [List.take_succ_cons, List.take_zero, List.drop_succ_cons, List.drop_zero]
      repeat still_step
      still_call (SB.out _)
      repeat still_step
      still_call (DU.out _)
      repeat still_step
      refine wpStill_nil ?_
      change wpList _ _ _ _ _ (World.drew _)
      go_wp2
      (try simp only [Exit.inBlock, Exit.then])
      refine bodyPost_ret (v := .tuple #[.int .u64 c, .bool true]) (by simp [results, Try.results19, go_sem]) rfl ⟨rfl, ?_⟩
      (repeat' (first | (with_reducible exact HV.out) | exact Below.refl _ _ | refine below_drewN _ ?_ | refine Below.drew ?_ | refine Below.setCell ?_ (by first | (simp; done) | omega) _ | refine Below.alloc ?_ (by have := HV.out.size; simp; omega) _))
    · rw [if_neg (fun x => h x.2)]
      rw [bck_ok.2 hok] at CK
      (try dsimp only)
      have h' : b < n := by omega
      clear hok h
      go_enter Try.func19, Try.ntmps19
      go_wp2_with fail
      refine (CK.out _).mono ?_
      rintro e w' ⟨rfl, rfl⟩
      go_wp2
      (try simp only [Exit.inBlock, Exit.then])
      refine bodyPost_ret (v := .tuple #[.int .u64 0, .bool false]) (by simp [results, Try.results19, go_sem]) rfl ⟨rfl, ?_⟩
      (repeat' (first | exact Below.refl _ _ | (with_reducible assumption) | refine below_drewN _ ?_ | refine Below.drew ?_ | refine Below.setCell ?_ (by simp) _ | refine Below.alloc ?_ (by simp; try omega) _))
  · rw [if_neg (fun x => hok x.1)]
    have hk : bck r b t ≠ 0 := fun h => hok (bck_ok.1 h)
    generalize bck r b t = k at *
    have g : (k != 0) = true := by simp [hk]
    clear hok hk
    (try dsimp only)
    go_enter Try.func19, Try.ntmps19
    go_wp2_with fail
    refine (CK.out _).mono ?_
    rintro e w' ⟨rfl, rfl⟩
    go_wp2
    (try simp only [Exit.inBlock, Exit.then])
    refine bodyPost_ret (v := .tuple #[.int .u64 0, .bool false]) (by simp [results, Try.results19, go_sem]) rfl ⟨rfl, ?_⟩
    (repeat' (first | exact Below.refl _ _ | (with_reducible assumption) | refine below_drewN _ ?_ | refine Below.drew ?_ | refine Below.setCell ?_ (by simp) _ | refine Below.alloc ?_ (by simp; try omega) _))
theorem bk_new (r b : Int) (w : World) :
    Calls Try.prog 21 #[.int .u64 r, .int .u64 b] w fun e w' => e = .returned (.tuple #[if bck r b b = 0 then .agg #[.int .u64 r, .int .u64 b, .int .u64 b] else .agg #[.int .u64 0, .int .u64 0, .int .u64 0], .int .i64 (bck r b b)]) ∧ Below w.heap.size w w' := by
  have CK := Lib.hid (fun W => bk_check r b b W)
  generalize bck r b b = k at *
  by_cases hk : k = 0
  · subst hk
    rw [if_pos rfl]
    go_enter Try.func21, Try.ntmps21
    go_wp2_with fail
    refine (CK.out _).mono ?_
    rintro e w' ⟨rfl, rfl⟩
    go_wp2
    (try simp only [Exit.inBlock, Exit.then])
    refine bodyPost_ret (v := .tuple #[.agg #[.int .u64 r, .int .u64 b, .int .u64 b], .int .i64 0]) (by simp [results, Try.results21, go_sem]) rfl ⟨rfl, ?_⟩
    (repeat' (first | exact Below.refl _ _ | (with_reducible assumption) | refine below_drewN _ ?_ | refine Below.drew ?_ | refine Below.setCell ?_ (by simp) _ | refine Below.alloc ?_ (by simp; try omega) _))
  · rw [if_neg hk]
    have g : (k != 0) = true := by simp [hk]
    clear hk
    go_enter Try.func21, Try.ntmps21
    go_wp2_with fail
    refine (CK.out _).mono ?_
    rintro e w' ⟨rfl, rfl⟩
    go_wp2
    (try simp only [Exit.inBlock, Exit.then])
    refine bodyPost_ret (v := .tuple #[.agg #[.int .u64 0, .int .u64 0, .int .u64 0], .int .i64 k]) (by simp [results, Try.results21, go_sem]) rfl ⟨rfl, ?_⟩
    (repeat' (first | exact Below.refl _ _ | (with_reducible assumption) | refine below_drewN _ ?_ | refine Below.drew ?_ | refine Below.setCell ?_ (by simp) _ | refine Below.alloc ?_ (by simp; try omega) _))
end Go.Proofs.Ytgmdhanbeafagaa
