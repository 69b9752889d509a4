/-
  What package meter's calls return for any meters, ticks and packets. No condition but that the numbers are words.
-/
import Derived.Test.YtmkgadndfiiacaaMt2
import Derived.StillTailTactics
namespace Go.Proofs.Ytmkgadndfiiacaa
set_option linter.unusedVariables false
set_option linter.unusedSimpArgs false
open Go.ChangeShapes Go.WideShapes Go.ChangeAt Go.RowKit
attribute [local go_sem] alloc_drewN setCell_drewN

set_option maxRecDepth 100000 in
set_option maxHeartbeats 4000000 in
theorem mt_tick (m : MT) (hm : m.wd) (x : Int) (x0 : 0 ≤ x) (x1 : x ≤ 18446744073709551615) (w : World) :
    Calls Try.prog 17 #[m.val, .int .u64 x] w fun e w' => e = .returned (m.tick x).val ∧ Below w.heap.size w w' := by
  obtain ⟨⟨s0, s1⟩, ⟨q0, q1⟩, ⟨n0, n1⟩, ⟨f0, f1⟩, ⟨a0, a1⟩, b0, b1⟩ := hm
  obtain ⟨s, q, n, f, a, b⟩ := m
  dsimp only at s0 s1 q0 q1 n0 n1 f0 f1 a0 a1 b0 b1
  have VA := Lib.hid (fun W => mt_valid s q n f a b W)
  by_cases hok : MT.ok ⟨s, q, n, f, a, b⟩
  · rw [show MT.tick ⟨s, q, n, f, a, b⟩ x = ⟨s, q, n, f, min (a + s * x) n, min (b + q * x) f⟩ from if_pos hok]
    rw [decide_eq_true hok] at VA
    simp only [mt_val]
    have A1 : Hid (∀ W, Calls Try.prog 82 #[.int .u64 a, .int .u64 s, .int .u64 x] W (fun e w' => e = .returned (.int .u64 (cap (a + s * x))) ∧ w' = W)) := Lib.hid (fun W => (sat_muladd a s x a0 a1 s0 s1 x0 x1 W).mono fun e w' h => ⟨h.1, h.2.symm⟩)
    have A2 : Hid (∀ W, Calls Try.prog 82 #[.int .u64 b, .int .u64 q, .int .u64 x] W (fun e w' => e = .returned (.int .u64 (cap (b + q * x))) ∧ w' = W)) := Lib.hid (fun W => (sat_muladd b q x b0 b1 q0 q1 x0 x1 W).mono fun e w' h => ⟨h.1, h.2.symm⟩)
    have e1 : min (a + s * x) n = min (cap (a + s * x)) n := by unfold cap; split <;> omega
    have e2 : min (b + q * x) f = min (cap (b + q * x)) f := by unfold cap; split <;> omega
    rw [e1, e2]
    generalize cap (a + s * x) = c at *
    generalize cap (b + q * x) = d at *
    clear hok e1 e2
    by_cases hc : c ≤ n
    · by_cases hd : d ≤ f
      · have g1 : c ≤ n := hc
        have mn1 : min c n = c := by omega
        rw [mn1]
        have g2 : d ≤ f := hd
        have mn2 : min d f = d := by omega
        rw [mn2]
        clear hc hd
        go_enter Try.func17, Try.ntmps17
        go_wp2_with fail
        refine cl_gen ?_
        intro v0 hv0
        have XB : Below w.heap.size w v0 := by
          rw [hv0]
          (repeat' (first | (with_reducible exact Below.refl _ _) | (with_reducible assumption) | (with_reducible refine below_drewN _ ?_) | (with_reducible refine Below.drew ?_) | (with_reducible refine Below.setCell ?_ (by simp) _) | (with_reducible refine Below.alloc ?_ (by simp; try omega) _)))
        have Xa : v0.heap[w.heap.size]? = some (.cells #[.int .u64 s, .int .u64 q, .int .u64 n, .int .u64 f, .int .u64 a, .int .u64 b] 34 (0, 0)) := by
          rw [hv0]
          (repeat' (first | (with_reducible exact heap_alloc_new _ _) | (with_reducible exact blk_new (by first | (simp; done) | omega)) | (with_reducible refine blk_drew ?_) | (with_reducible apply put1_0) | (with_reducible apply put2_0) | (with_reducible apply put2_1) | (with_reducible apply put3_0) | (with_reducible apply put3_1) | (with_reducible apply put3_2) | (with_reducible apply put4_0) | (with_reducible apply put4_1) | (with_reducible apply put4_2) | (with_reducible apply put4_3) | (with_reducible apply put5_0) | (with_reducible apply put5_1) | (with_reducible apply put5_2) | (with_reducible apply put5_3) | (with_reducible apply put5_4) | (with_reducible apply put6_0) | (with_reducible apply put6_1) | (with_reducible apply put6_2) | (with_reducible apply put6_3) | (with_reducible apply put6_4) | (with_reducible apply put6_5) | (with_reducible refine blk_else (by omega) ?_) | (with_reducible refine blk_old ?_)))
        have Xz : v0.heap[w.heap.size + 1]? = some (.cells #[.int .u64 0, .int .u64 0, .int .u64 0, .int .u64 0, .int .u64 0, .int .u64 0] 34 (0, 0)) := by
          rw [hv0]
          (repeat' (first | (with_reducible exact heap_alloc_new _ _) | (with_reducible exact blk_new (by first | (simp; done) | omega)) | (with_reducible refine blk_drew ?_) | (with_reducible apply put1_0) | (with_reducible apply put2_0) | (with_reducible apply put2_1) | (with_reducible apply put3_0) | (with_reducible apply put3_1) | (with_reducible apply put3_2) | (with_reducible apply put4_0) | (with_reducible apply put4_1) | (with_reducible apply put4_2) | (with_reducible apply put4_3) | (with_reducible apply put5_0) | (with_reducible apply put5_1) | (with_reducible apply put5_2) | (with_reducible apply put5_3) | (with_reducible apply put5_4) | (with_reducible apply put6_0) | (with_reducible apply put6_1) | (with_reducible apply put6_2) | (with_reducible apply put6_3) | (with_reducible apply put6_4) | (with_reducible apply put6_5) | (with_reducible refine blk_else (by omega) ?_) | (with_reducible refine blk_old ?_)))
        obtain ⟨Bz, hBz⟩ : ∃ x, x = w.heap.size + 1 := ⟨_, rfl⟩
        rw [← hBz] at Xz
        try rw [← hBz]
        have lez : w.heap.size ≤ Bz := by omega
        obtain ⟨Ba, hBa⟩ : ∃ x, x = w.heap.size := ⟨_, rfl⟩
        rw [← hBa] at Xa
        try rw [← hBa]
        have naz : ¬ Ba = Bz := by omega
        have nza : ¬ Bz = Ba := fun h => naz h.symm
        have lea : w.heap.size ≤ Ba := by omega
        clear hBa hBz
        clear hv0
        refine (VA.out _).mono ?_
        rintro e w1 ⟨rfl, bb⟩
        have Hz1 := Lib.hid (blk_call bb Xz)
        have Ha1 := Lib.hid (blk_call bb Xa)
        have HB1 := Lib.hid (bel_onto XB bb XB.size)
        clear Xz Xa XB bb
        obtain ⟨z0_, z1_, z2_, z3_, z4_, z5_, zf0_, zf1_, zf2_, zf3_, zf4_, zf5_⟩ := at6 Hz1.out
        have zn_ := ne_blk Hz1.out
        have zm_ := Ne.symm (a := Bz) zn_
        have zl_ := lt_blk Hz1.out
        obtain ⟨a0_, a1_, a2_, a3_, a4_, a5_, af0_, af1_, af2_, af3_, af4_, af5_⟩ := at6 Ha1.out
        have an_ := ne_blk Ha1.out
        have am_ := Ne.symm (a := Ba) an_
        have al_ := lt_blk Ha1.out
        go_wp2
        refine wp_genc ?_
        intro v1 hv1
        have Xz : v1.heap[Bz]? = some (.cells #[.int .u64 0, .int .u64 0, .int .u64 0, .int .u64 0, .int .u64 0, .int .u64 0] 34 (0, 0)) := by
          rw [hv1]
          (repeat' (first | (with_reducible exact Hz1.out) | (with_reducible exact Ha1.out) | (with_reducible exact heap_alloc_new _ _) | (with_reducible exact blk_new (by first | (simp; done) | omega)) | (with_reducible refine blk_drew ?_) | (with_reducible apply put1_0) | (with_reducible apply put2_0) | (with_reducible apply put2_1) | (with_reducible apply put3_0) | (with_reducible apply put3_1) | (with_reducible apply put3_2) | (with_reducible apply put4_0) | (with_reducible apply put4_1) | (with_reducible apply put4_2) | (with_reducible apply put4_3) | (with_reducible apply put5_0) | (with_reducible apply put5_1) | (with_reducible apply put5_2) | (with_reducible apply put5_3) | (with_reducible apply put5_4) | (with_reducible apply put6_0) | (with_reducible apply put6_1) | (with_reducible apply put6_2) | (with_reducible apply put6_3) | (with_reducible apply put6_4) | (with_reducible apply put6_5) | (with_reducible refine blk_else (by omega) ?_) | (with_reducible refine blk_old ?_)))
        have Xa : v1.heap[Ba]? = some (.cells #[.int .u64 s, .int .u64 q, .int .u64 n, .int .u64 f, .int .u64 a, .int .u64 b] 34 (0, 0)) := by
          rw [hv1]
          (repeat' (first | (with_reducible exact Hz1.out) | (with_reducible exact Ha1.out) | (with_reducible exact heap_alloc_new _ _) | (with_reducible exact blk_new (by first | (simp; done) | omega)) | (with_reducible refine blk_drew ?_) | (with_reducible apply put1_0) | (with_reducible apply put2_0) | (with_reducible apply put2_1) | (with_reducible apply put3_0) | (with_reducible apply put3_1) | (with_reducible apply put3_2) | (with_reducible apply put4_0) | (with_reducible apply put4_1) | (with_reducible apply put4_2) | (with_reducible apply put4_3) | (with_reducible apply put5_0) | (with_reducible apply put5_1) | (with_reducible apply put5_2) | (with_reducible apply put5_3) | (with_reducible apply put5_4) | (with_reducible apply put6_0) | (with_reducible apply put6_1) | (with_reducible apply put6_2) | (with_reducible apply put6_3) | (with_reducible apply put6_4) | (with_reducible apply put6_5) | (with_reducible refine blk_else (by omega) ?_) | (with_reducible refine blk_old ?_)))
        have XB : Below w.heap.size w v1 := by
          rw [hv1]
          (repeat' (first | (with_reducible exact HB1.out) | (with_reducible exact Below.refl _ _) | (with_reducible refine below_drewN _ ?_) | (with_reducible refine Below.drew ?_) | (with_reducible refine Below.setCell ?_ (by first | (simp; done) | omega) _) | (with_reducible refine Below.alloc ?_ (by have := HB1.out.size; simp; omega) _)))
        clear z0_ z1_ z2_ z3_ z4_ z5_ zf0_ zf1_ zf2_ zf3_ zf4_ zf5_ zn_ zm_ zl_ a0_ a1_ a2_ a3_ a4_ a5_ af0_ af1_ af2_ af3_ af4_ af5_ an_ am_ al_
        clear hv1 Hz1 Ha1 HB1
        have Hz2 := Lib.hid Xz
        have Ha2 := Lib.hid Xa
        have HB2 := Lib.hid XB
        clear Xz Xa XB
        obtain ⟨z0_, z1_, z2_, z3_, z4_, z5_, zf0_, zf1_, zf2_, zf3_, zf4_, zf5_⟩ := at6 Hz2.out
        have zn_ := ne_blk Hz2.out
        have zm_ := Ne.symm (a := Bz) zn_
        have zl_ := lt_blk Hz2.out
        obtain ⟨a0_, a1_, a2_, a3_, a4_, a5_, af0_, af1_, af2_, af3_, af4_, af5_⟩ := at6 Ha2.out
        have an_ := ne_blk Ha2.out
        have am_ := Ne.symm (a := Ba) an_
        have al_ := lt_blk Ha2.out
        refine wp_region_still_tail 9 (by kernel_rfl) (by kernel_rfl) ?_
        simp only [List.take_succ_cons, List.take_zero, List.drop_succ_cons, List.drop_zero]
        repeat still_step
        still_call (A1.out _)
        repeat still_step
        refine wpStill_nil ?_
        change wpList _ _ _ _ _ (World.drew _)
        go_wp2
        refine wp_genc ?_
        intro v2 hv2
        have Xz : v2.heap[Bz]? = some (.cells #[.int .u64 0, .int .u64 0, .int .u64 0, .int .u64 0, .int .u64 0, .int .u64 0] 34 (0, 0)) := by
          rw [hv2]
          (repeat' (first | (with_reducible exact Hz2.out) | (with_reducible exact Ha2.out) | (with_reducible exact heap_alloc_new _ _) | (with_reducible exact blk_new (by first | (simp; done) | omega)) | (with_reducible refine blk_drew ?_) | (with_reducible apply put1_0) | (with_reducible apply put2_0) | (with_reducible apply put2_1) | (with_reducible apply put3_0) | (with_reducible apply put3_1) | (with_reducible apply put3_2) | (with_reducible apply put4_0) | (with_reducible apply put4_1) | (with_reducible apply put4_2) | (with_reducible apply put4_3) | (with_reducible apply put5_0) | (with_reducible apply put5_1) | (with_reducible apply put5_2) | (with_reducible apply put5_3) | (with_reducible apply put5_4) | (with_reducible apply put6_0) | (with_reducible apply put6_1) | (with_reducible apply put6_2) | (with_reducible apply put6_3) | (with_reducible apply put6_4) | (with_reducible apply put6_5) | (with_reducible refine blk_else (by omega) ?_) | (with_reducible refine blk_old ?_)))
        have Xa : v2.heap[Ba]? = some (.cells #[.int .u64 s, .int .u64 q, .int .u64 n, .int .u64 f, .int .u64 c, .int .u64 b] 34 (0, 0)) := by
          rw [hv2]
          (repeat' (first | (with_reducible exact Hz2.out) | (with_reducible exact Ha2.out) | (with_reducible exact heap_alloc_new _ _) | (with_reducible exact blk_new (by first | (simp; done) | omega)) | (with_reducible refine blk_drew ?_) | (with_reducible apply put1_0) | (with_reducible apply put2_0) | (with_reducible apply put2_1) | (with_reducible apply put3_0) | (with_reducible apply put3_1) | (with_reducible apply put3_2) | (with_reducible apply put4_0) | (with_reducible apply put4_1) | (with_reducible apply put4_2) | (with_reducible apply put4_3) | (with_reducible apply put5_0) | (with_reducible apply put5_1) | (with_reducible apply put5_2) | (with_reducible apply put5_3) | (with_reducible apply put5_4) | (with_reducible apply put6_0) | (with_reducible apply put6_1) | (with_reducible apply put6_2) | (with_reducible apply put6_3) | (with_reducible apply put6_4) | (with_reducible apply put6_5) | (with_reducible refine blk_else (by omega) ?_) | (with_reducible refine blk_old ?_)))
        have XB : Below w.heap.size w v2 := by
          rw [hv2]
          (repeat' (first | (with_reducible exact HB2.out) | (with_reducible exact Below.refl _ _) | (with_reducible refine below_drewN _ ?_) | (with_reducible refine Below.drew ?_) | (with_reducible refine Below.setCell ?_ (by first | (simp; done) | omega) _) | (with_reducible refine Below.alloc ?_ (by have := HB2.out.size; simp; omega) _)))
        clear z0_ z1_ z2_ z3_ z4_ z5_ zf0_ zf1_ zf2_ zf3_ zf4_ zf5_ zn_ zm_ zl_ a0_ a1_ a2_ a3_ a4_ a5_ af0_ af1_ af2_ af3_ af4_ af5_ an_ am_ al_
        clear hv2 Hz2 Ha2 HB2
        have Hz3 := Lib.hid Xz
        have Ha3 := Lib.hid Xa
        have HB3 := Lib.hid XB
        clear Xz Xa XB
        obtain ⟨z0_, z1_, z2_, z3_, z4_, z5_, zf0_, zf1_, zf2_, zf3_, zf4_, zf5_⟩ := at6 Hz3.out
        have zn_ := ne_blk Hz3.out
        have zm_ := Ne.symm (a := Bz) zn_
        have zl_ := lt_blk Hz3.out
        obtain ⟨a0_, a1_, a2_, a3_, a4_, a5_, af0_, af1_, af2_, af3_, af4_, af5_⟩ := at6 Ha3.out
        have an_ := ne_blk Ha3.out
        have am_ := Ne.symm (a := Ba) an_
        have al_ := lt_blk Ha3.out
        refine wp_region_still_tail 9 (by kernel_rfl) (by kernel_rfl) ?_
        simp only [List.take_succ_cons, List.take_zero, List.drop_succ_cons, List.drop_zero]
        repeat still_step
        still_call (A2.out _)
        repeat still_step
        refine wpStill_nil ?_
        change wpList _ _ _ _ _ (World.drew _)
        go_wp2
        (try simp only [Exit.inBlock, Exit.then])
        refine bp_gen ?_
        intro v3 hv3
        have Xz : v3.heap[Bz]? = some (.cells #[.int .u64 s, .int .u64 q, .int .u64 n, .int .u64 f, .int .u64 c, .int .u64 d] 34 (0, 0)) := by
          rw [hv3]
          (repeat' (first | (with_reducible exact Hz3.out) | (with_reducible exact heap_alloc_new _ _) | (with_reducible exact blk_new (by first | (simp; done) | omega)) | (with_reducible refine blk_drew ?_) | (with_reducible apply put1_0) | (with_reducible apply put2_0) | (with_reducible apply put2_1) | (with_reducible apply put3_0) | (with_reducible apply put3_1) | (with_reducible apply put3_2) | (with_reducible apply put4_0) | (with_reducible apply put4_1) | (with_reducible apply put4_2) | (with_reducible apply put4_3) | (with_reducible apply put5_0) | (with_reducible apply put5_1) | (with_reducible apply put5_2) | (with_reducible apply put5_3) | (with_reducible apply put5_4) | (with_reducible apply put6_0) | (with_reducible apply put6_1) | (with_reducible apply put6_2) | (with_reducible apply put6_3) | (with_reducible apply put6_4) | (with_reducible apply put6_5) | (with_reducible refine blk_else (by omega) ?_) | (with_reducible refine blk_old ?_)))
        have XB : Below w.heap.size w v3 := by
          rw [hv3]
          (repeat' (first | (with_reducible exact HB3.out) | (with_reducible exact Below.refl _ _) | (with_reducible refine below_drewN _ ?_) | (with_reducible refine Below.drew ?_) | (with_reducible refine Below.setCell ?_ (by first | (simp; done) | omega) _) | (with_reducible refine Below.alloc ?_ (by have := HB3.out.size; simp; omega) _)))
        clear z0_ z1_ z2_ z3_ z4_ z5_ zf0_ zf1_ zf2_ zf3_ zf4_ zf5_ zn_ zm_ zl_ a0_ a1_ a2_ a3_ a4_ a5_ af0_ af1_ af2_ af3_ af4_ af5_ an_ am_ al_
        clear hv3 Hz3 Ha3 HB3
        obtain ⟨z0_, z1_, z2_, z3_, z4_, z5_, -⟩ := at6 Xz
        refine bodyPost_ret (v := .agg #[.int .u64 s, .int .u64 q, .int .u64 n, .int .u64 f, .int .u64 c, .int .u64 d]) (by simp [results, Try.results17, go_sem, z0_, z1_, z2_, z3_, z4_, z5_]) rfl ⟨rfl, XB⟩
      · have g1 : c ≤ n := hc
        have mn3 : min c n = c := by omega
        rw [mn3]
        have g2 : f < d := by omega
        have mn4 : min d f = f := by omega
        rw [mn4]
        clear hc hd
        go_enter Try.func17, Try.ntmps17
        go_wp2_with fail
        refine cl_gen ?_
        intro v0 hv0
        have XB : Below w.heap.size w v0 := by
          rw [hv0]
          (repeat' (first | (with_reducible exact Below.refl _ _) | (with_reducible assumption) | (with_reducible refine below_drewN _ ?_) | (with_reducible refine Below.drew ?_) | (with_reducible refine Below.setCell ?_ (by simp) _) | (with_reducible refine Below.alloc ?_ (by simp; try omega) _)))
        have Xa : v0.heap[w.heap.size]? = some (.cells #[.int .u64 s, .int .u64 q, .int .u64 n, .int .u64 f, .int .u64 a, .int .u64 b] 34 (0, 0)) := by
          rw [hv0]
          (repeat' (first | (with_reducible exact heap_alloc_new _ _) | (with_reducible exact blk_new (by first | (simp; done) | omega)) | (with_reducible refine blk_drew ?_) | (with_reducible apply put1_0) | (with_reducible apply put2_0) | (with_reducible apply put2_1) | (with_reducible apply put3_0) | (with_reducible apply put3_1) | (with_reducible apply put3_2) | (with_reducible apply put4_0) | (with_reducible apply put4_1) | (with_reducible apply put4_2) | (with_reducible apply put4_3) | (with_reducible apply put5_0) | (with_reducible apply put5_1) | (with_reducible apply put5_2) | (with_reducible apply put5_3) | (with_reducible apply put5_4) | (with_reducible apply put6_0) | (with_reducible apply put6_1) | (with_reducible apply put6_2) | (with_reducible apply put6_3) | (with_reducible apply put6_4) | (with_reducible apply put6_5) | (with_reducible refine blk_else (by omega) ?_) | (with_reducible refine blk_old ?_)))
        have Xz : v0.heap[w.heap.size + 1]? = some (.cells #[.int .u64 0, .int .u64 0, .int .u64 0, .int .u64 0, .int .u64 0, .int .u64 0] 34 (0, 0)) := by
          rw [hv0]
          (repeat' (first | (with_reducible exact heap_alloc_new _ _) | (with_reducible exact blk_new (by first | (simp; done) | omega)) | (with_reducible refine blk_drew ?_) | (with_reducible apply put1_0) | (with_reducible apply put2_0) | (with_reducible apply put2_1) | (with_reducible apply put3_0) | (with_reducible apply put3_1) | (with_reducible apply put3_2) | (with_reducible apply put4_0) | (with_reducible apply put4_1) | (with_reducible apply put4_2) | (with_reducible apply put4_3) | (with_reducible apply put5_0) | (with_reducible apply put5_1) | (with_reducible apply put5_2) | (with_reducible apply put5_3) | (with_reducible apply put5_4) | (with_reducible apply put6_0) | (with_reducible apply put6_1) | (with_reducible apply put6_2) | (with_reducible apply put6_3) | (with_reducible apply put6_4) | (with_reducible apply put6_5) | (with_reducible refine blk_else (by omega) ?_) | (with_reducible refine blk_old ?_)))
        obtain ⟨Bz, hBz⟩ : ∃ x, x = w.heap.size + 1 := ⟨_, rfl⟩
        rw [← hBz] at Xz
        try rw [← hBz]
        have lez : w.heap.size ≤ Bz := by omega
        obtain ⟨Ba, hBa⟩ : ∃ x, x = w.heap.size := ⟨_, rfl⟩
        rw [← hBa] at Xa
        try rw [← hBa]
        have naz : ¬ Ba = Bz := by omega
        have nza : ¬ Bz = Ba := fun h => naz h.symm
        have lea : w.heap.size ≤ Ba := by omega
        clear hBa hBz
        clear hv0
        refine (VA.out _).mono ?_
        rintro e w1 ⟨rfl, bb⟩
        have Hz1 := Lib.hid (blk_call bb Xz)
        have Ha1 := Lib.hid (blk_call bb Xa)
        have HB1 := Lib.hid (bel_onto XB bb XB.size)
        clear Xz Xa XB bb
        obtain ⟨z0_, z1_, z2_, z3_, z4_, z5_, zf0_, zf1_, zf2_, zf3_, zf4_, zf5_⟩ := at6 Hz1.out
        have zn_ := ne_blk Hz1.out
        have zm_ := Ne.symm (a := Bz) zn_
        have zl_ := lt_blk Hz1.out
        obtain ⟨a0_, a1_, a2_, a3_, a4_, a5_, af0_, af1_, af2_, af3_, af4_, af5_⟩ := at6 Ha1.out
        have an_ := ne_blk Ha1.out
        have am_ := Ne.symm (a := Ba) an_
        have al_ := lt_blk Ha1.out
        go_wp2
        refine wp_genc ?_
        intro v1 hv1
        have Xz : v1.heap[Bz]? = some (.cells #[.int .u64 0, .int .u64 0, .int .u64 0, .int .u64 0, .int .u64 0, .int .u64 0] 34 (0, 0)) := by
          rw [hv1]
          (repeat' (first | (with_reducible exact Hz1.out) | (with_reducible exact Ha1.out) | (with_reducible exact heap_alloc_new _ _) | (with_reducible exact blk_new (by first | (simp; done) | omega)) | (with_reducible refine blk_drew ?_) | (with_reducible apply put1_0) | (with_reducible apply put2_0) | (with_reducible apply put2_1) | (with_reducible apply put3_0) | (with_reducible apply put3_1) | (with_reducible apply put3_2) | (with_reducible apply put4_0) | (with_reducible apply put4_1) | (with_reducible apply put4_2) | (with_reducible apply put4_3) | (with_reducible apply put5_0) | (with_reducible apply put5_1) | (with_reducible apply put5_2) | (with_reducible apply put5_3) | (with_reducible apply put5_4) | (with_reducible apply put6_0) | (with_reducible apply put6_1) | (with_reducible apply put6_2) | (with_reducible apply put6_3) | (with_reducible apply put6_4) | (with_reducible apply put6_5) | (with_reducible refine blk_else (by omega) ?_) | (with_reducible refine blk_old ?_)))
        have Xa : v1.heap[Ba]? = some (.cells #[.int .u64 s, .int .u64 q, .int .u64 n, .int .u64 f, .int .u64 a, .int .u64 b] 34 (0, 0)) := by
          rw [hv1]
          (repeat' (first | (with_reducible exact Hz1.out) | (with_reducible exact Ha1.out) | (with_reducible exact heap_alloc_new _ _) | (with_reducible exact blk_new (by first | (simp; done) | omega)) | (with_reducible refine blk_drew ?_) | (with_reducible apply put1_0) | (with_reducible apply put2_0) | (with_reducible apply put2_1) | (with_reducible apply put3_0) | (with_reducible apply put3_1) | (with_reducible apply put3_2) | (with_reducible apply put4_0) | (with_reducible apply put4_1) | (with_reducible apply put4_2) | (with_reducible apply put4_3) | (with_reducible apply put5_0) | (with_reducible apply put5_1) | (with_reducible apply put5_2) | (with_reducible apply put5_3) | (with_reducible apply put5_4) | (with_reducible apply put6_0) | (with_reducible apply put6_1) | (with_reducible apply put6_2) | (with_reducible apply put6_3) | (with_reducible apply put6_4) | (with_reducible apply put6_5) | (with_reducible refine blk_else (by omega) ?_) | (with_reducible refine blk_old ?_)))
        have XB : Below w.heap.size w v1 := by
          rw [hv1]
          (repeat' (first | (with_reducible exact HB1.out) | (with_reducible exact Below.refl _ _) | (with_reducible refine below_drewN _ ?_) | (with_reducible refine Below.drew ?_) | (with_reducible refine Below.setCell ?_ (by first | (simp; done) | omega) _) | (with_reducible refine Below.alloc ?_ (by have := HB1.out.size; simp; omega) _)))
        clear z0_ z1_ z2_ z3_ z4_ z5_ zf0_ zf1_ zf2_ zf3_ zf4_ zf5_ zn_ zm_ zl_ a0_ a1_ a2_ a3_ a4_ a5_ af0_ af1_ af2_ af3_ af4_ af5_ an_ am_ al_
        clear hv1 Hz1 Ha1 HB1
        have Hz2 := Lib.hid Xz
        have Ha2 := Lib.hid Xa
        have HB2 := Lib.hid XB
        clear Xz Xa XB
        obtain ⟨z0_, z1_, z2_, z3_, z4_, z5_, zf0_, zf1_, zf2_, zf3_, zf4_, zf5_⟩ := at6 Hz2.out
        have zn_ := ne_blk Hz2.out
        have zm_ := Ne.symm (a := Bz) zn_
        have zl_ := lt_blk Hz2.out
        obtain ⟨a0_, a1_, a2_, a3_, a4_, a5_, af0_, af1_, af2_, af3_, af4_, af5_⟩ := at6 Ha2.out
        have an_ := ne_blk Ha2.out
        have am_ := Ne.symm (a := Ba) an_
        have al_ := lt_blk Ha2.out
        refine wp_region_still_tail 9 (by kernel_rfl) (by kernel_rfl) ?_
        simp only [List.take_succ_cons, List.take_zero, List.drop_succ_cons, List.drop_zero]
        repeat still_step
        still_call (A1.out _)
        repeat still_step
        refine wpStill_nil ?_
        change wpList _ _ _ _ _ (World.drew _)
        go_wp2
        refine wp_genc ?_
        intro v2 hv2
        have Xz : v2.heap[Bz]? = some (.cells #[.int .u64 0, .int .u64 0, .int .u64 0, .int .u64 0, .int .u64 0, .int .u64 0] 34 (0, 0)) := by
          rw [hv2]
          (repeat' (first | (with_reducible exact Hz2.out) | (with_reducible exact Ha2.out) | (with_reducible exact heap_alloc_new _ _) | (with_reducible exact blk_new (by first | (simp; done) | omega)) | (with_reducible refine blk_drew ?_) | (with_reducible apply put1_0) | (with_reducible apply put2_0) | (with_reducible apply put2_1) | (with_reducible apply put3_0) | (with_reducible apply put3_1) | (with_reducible apply put3_2) | (with_reducible apply put4_0) | (with_reducible apply put4_1) | (with_reducible apply put4_2) | (with_reducible apply put4_3) | (with_reducible apply put5_0) | (with_reducible apply put5_1) | (with_reducible apply put5_2) | (with_reducible apply put5_3) | (with_reducible apply put5_4) | (with_reducible apply put6_0) | (with_reducible apply put6_1) | (with_reducible apply put6_2) | (with_reducible apply put6_3) | (with_reducible apply put6_4) | (with_reducible apply put6_5) | (with_reducible refine blk_else (by omega) ?_) | (with_reducible refine blk_old ?_)))
        have Xa : v2.heap[Ba]? = some (.cells #[.int .u64 s, .int .u64 q, .int .u64 n, .int .u64 f, .int .u64 c, .int .u64 b] 34 (0, 0)) := by
          rw [hv2]
          (repeat' (first | (with_reducible exact Hz2.out) | (with_reducible exact Ha2.out) | (with_reducible exact heap_alloc_new _ _) | (with_reducible exact blk_new (by first | (simp; done) | omega)) | (with_reducible refine blk_drew ?_) | (with_reducible apply put1_0) | (with_reducible apply put2_0) | (with_reducible apply put2_1) | (with_reducible apply put3_0) | (with_reducible apply put3_1) | (with_reducible apply put3_2) | (with_reducible apply put4_0) | (with_reducible apply put4_1) | (with_reducible apply put4_2) | (with_reducible apply put4_3) | (with_reducible apply put5_0) | (with_reducible apply put5_1) | (with_reducible apply put5_2) | (with_reducible apply put5_3) | (with_reducible apply put5_4) | (with_reducible apply put6_0) | (with_reducible apply put6_1) | (with_reducible apply put6_2) | (with_reducible apply put6_3) | (with_reducible apply put6_4) | (with_reducible apply put6_5) | (with_reducible refine blk_else (by omega) ?_) | (with_reducible refine blk_old ?_)))
        have XB : Below w.heap.size w v2 := by
          rw [hv2]
          (repeat' (first | (with_reducible exact HB2.out) | (with_reducible exact Below.refl _ _) | (with_reducible refine below_drewN _ ?_) | (with_reducible refine Below.drew ?_) | (with_reducible refine Below.setCell ?_ (by first | (simp; done) | omega) _) | (with_reducible refine Below.alloc ?_ (by have := HB2.out.size; simp; omega) _)))
        clear z0_ z1_ z2_ z3_ z4_ z5_ zf0_ zf1_ zf2_ zf3_ zf4_ zf5_ zn_ zm_ zl_ a0_ a1_ a2_ a3_ a4_ a5_ af0_ af1_ af2_ af3_ af4_ af5_ an_ am_ al_
        clear hv2 Hz2 Ha2 HB2
        have Hz3 := Lib.hid Xz
        have Ha3 := Lib.hid Xa
        have HB3 := Lib.hid XB
        clear Xz Xa XB
        obtain ⟨z0_, z1_, z2_, z3_, z4_, z5_, zf0_, zf1_, zf2_, zf3_, zf4_, zf5_⟩ := at6 Hz3.out
        have zn_ := ne_blk Hz3.out
        have zm_ := Ne.symm (a := Bz) zn_
        have zl_ := lt_blk Hz3.out
        obtain ⟨a0_, a1_, a2_, a3_, a4_, a5_, af0_, af1_, af2_, af3_, af4_, af5_⟩ := at6 Ha3.out
        have an_ := ne_blk Ha3.out
        have am_ := Ne.symm (a := Ba) an_
        have al_ := lt_blk Ha3.out
        refine wp_region_still_tail 9 (by kernel_rfl) (by kernel_rfl) ?_
        simp only [List.take_succ_cons, List.take_zero, List.drop_succ_cons, List.drop_zero]
        repeat still_step
        still_call (A2.out _)
        repeat still_step
        refine wpStill_nil ?_
        change wpList _ _ _ _ _ (World.drew _)
        go_wp2
        (try simp only [Exit.inBlock, Exit.then])
        refine bp_gen ?_
        intro v3 hv3
        have Xz : v3.heap[Bz]? = some (.cells #[.int .u64 s, .int .u64 q, .int .u64 n, .int .u64 f, .int .u64 c, .int .u64 f] 34 (0, 0)) := by
          rw [hv3]
          (repeat' (first | (with_reducible exact Hz3.out) | (with_reducible exact heap_alloc_new _ _) | (with_reducible exact blk_new (by first | (simp; done) | omega)) | (with_reducible refine blk_drew ?_) | (with_reducible apply put1_0) | (with_reducible apply put2_0) | (with_reducible apply put2_1) | (with_reducible apply put3_0) | (with_reducible apply put3_1) | (with_reducible apply put3_2) | (with_reducible apply put4_0) | (with_reducible apply put4_1) | (with_reducible apply put4_2) | (with_reducible apply put4_3) | (with_reducible apply put5_0) | (with_reducible apply put5_1) | (with_reducible apply put5_2) | (with_reducible apply put5_3) | (with_reducible apply put5_4) | (with_reducible apply put6_0) | (with_reducible apply put6_1) | (with_reducible apply put6_2) | (with_reducible apply put6_3) | (with_reducible apply put6_4) | (with_reducible apply put6_5) | (with_reducible refine blk_else (by omega) ?_) | (with_reducible refine blk_old ?_)))
        have XB : Below w.heap.size w v3 := by
          rw [hv3]
          (repeat' (first | (with_reducible exact HB3.out) | (with_reducible exact Below.refl _ _) | (with_reducible refine below_drewN _ ?_) | (with_reducible refine Below.drew ?_) | (with_reducible refine Below.setCell ?_ (by first | (simp; done) | omega) _) | (with_reducible refine Below.alloc ?_ (by have := HB3.out.size; simp; omega) _)))
        clear z0_ z1_ z2_ z3_ z4_ z5_ zf0_ zf1_ zf2_ zf3_ zf4_ zf5_ zn_ zm_ zl_ a0_ a1_ a2_ a3_ a4_ a5_ af0_ af1_ af2_ af3_ af4_ af5_ an_ am_ al_
        clear hv3 Hz3 Ha3 HB3
        obtain ⟨z0_, z1_, z2_, z3_, z4_, z5_, -⟩ := at6 Xz
        refine bodyPost_ret (v := .agg #[.int .u64 s, .int .u64 q, .int .u64 n, .int .u64 f, .int .u64 c, .int .u64 f]) (by simp [results, Try.results17, go_sem, z0_, z1_, z2_, z3_, z4_, z5_]) rfl ⟨rfl, XB⟩
    · by_cases hd : d ≤ f
      · have g1 : n < c := by omega
        have mn5 : min c n = n := by omega
        rw [mn5]
        have g2 : d ≤ f := hd
        have mn6 : min d f = d := by omega
        rw [mn6]
        clear hc hd
        go_enter Try.func17, Try.ntmps17
        go_wp2_with fail
        refine cl_gen ?_
        intro v0 hv0
        have XB : Below w.heap.size w v0 := by
          rw [hv0]
          (repeat' (first | (with_reducible exact Below.refl _ _) | (with_reducible assumption) | (with_reducible refine below_drewN _ ?_) | (with_reducible refine Below.drew ?_) | (with_reducible refine Below.setCell ?_ (by simp) _) | (with_reducible refine Below.alloc ?_ (by simp; try omega) _)))
        have Xa : v0.heap[w.heap.size]? = some (.cells #[.int .u64 s, .int .u64 q, .int .u64 n, .int .u64 f, .int .u64 a, .int .u64 b] 34 (0, 0)) := by
          rw [hv0]
          (repeat' (first | (with_reducible exact heap_alloc_new _ _) | (with_reducible exact blk_new (by first | (simp; done) | omega)) | (with_reducible refine blk_drew ?_) | (with_reducible apply put1_0) | (with_reducible apply put2_0) | (with_reducible apply put2_1) | (with_reducible apply put3_0) | (with_reducible apply put3_1) | (with_reducible apply put3_2) | (with_reducible apply put4_0) | (with_reducible apply put4_1) | (with_reducible apply put4_2) | (with_reducible apply put4_3) | (with_reducible apply put5_0) | (with_reducible apply put5_1) | (with_reducible apply put5_2) | (with_reducible apply put5_3) | (with_reducible apply put5_4) | (with_reducible apply put6_0) | (with_reducible apply put6_1) | (with_reducible apply put6_2) | (with_reducible apply put6_3) | (with_reducible apply put6_4) | (with_reducible apply put6_5) | (with_reducible refine blk_else (by omega) ?_) | (with_reducible refine blk_old ?_)))
        have Xz : v0.heap[w.heap.size + 1]? = some (.cells #[.int .u64 0, .int .u64 0, .int .u64 0, .int .u64 0, .int .u64 0, .int .u64 0] 34 (0, 0)) := by
          rw [hv0]
          (repeat' (first | (with_reducible exact heap_alloc_new _ _) | (with_reducible exact blk_new (by first | (simp; done) | omega)) | (with_reducible refine blk_drew ?_) | (with_reducible apply put1_0) | (with_reducible apply put2_0) | (with_reducible apply put2_1) | (with_reducible apply put3_0) | (with_reducible apply put3_1) | (with_reducible apply put3_2) | (with_reducible apply put4_0) | (with_reducible apply put4_1) | (with_reducible apply put4_2) | (with_reducible apply put4_3) | (with_reducible apply put5_0) | (with_reducible apply put5_1) | (with_reducible apply put5_2) | (with_reducible apply put5_3) | (with_reducible apply put5_4) | (with_reducible apply put6_0) | (with_reducible apply put6_1) | (with_reducible apply put6_2) | (with_reducible apply put6_3) | (with_reducible apply put6_4) | (with_reducible apply put6_5) | (with_reducible refine blk_else (by omega) ?_) | (with_reducible refine blk_old ?_)))
        obtain ⟨Bz, hBz⟩ : ∃ x, x = w.heap.size + 1 := ⟨_, rfl⟩
        rw [← hBz] at Xz
        try rw [← hBz]
        have lez : w.heap.size ≤ Bz := by omega
        obtain ⟨Ba, hBa⟩ : ∃ x, x = w.heap.size := ⟨_, rfl⟩
        rw [← hBa] at Xa
        try rw [← hBa]
        have naz : ¬ Ba = Bz := by omega
        have nza : ¬ Bz = Ba := fun h => naz h.symm
        have lea : w.heap.size ≤ Ba := by omega
        clear hBa hBz
        clear hv0
        refine (VA.out _).mono ?_
        rintro e w1 ⟨rfl, bb⟩
        have Hz1 := Lib.hid (blk_call bb Xz)
        have Ha1 := Lib.hid (blk_call bb Xa)
        have HB1 := Lib.hid (bel_onto XB bb XB.size)
        clear Xz Xa XB bb
        obtain ⟨z0_, z1_, z2_, z3_, z4_, z5_, zf0_, zf1_, zf2_, zf3_, zf4_, zf5_⟩ := at6 Hz1.out
        have zn_ := ne_blk Hz1.out
        have zm_ := Ne.symm (a := Bz) zn_
        have zl_ := lt_blk Hz1.out
        obtain ⟨a0_, a1_, a2_, a3_, a4_, a5_, af0_, af1_, af2_, af3_, af4_, af5_⟩ := at6 Ha1.out
        have an_ := ne_blk Ha1.out
        have am_ := Ne.symm (a := Ba) an_
        have al_ := lt_blk Ha1.out
        go_wp2
        refine wp_genc ?_
        intro v1 hv1
        have Xz : v1.heap[Bz]? = some (.cells #[.int .u64 0, .int .u64 0, .int .u64 0, .int .u64 0, .int .u64 0, .int .u64 0] 34 (0, 0)) := by
          rw [hv1]
          (repeat' (first | (with_reducible exact Hz1.out) | (with_reducible exact Ha1.out) | (with_reducible exact heap_alloc_new _ _) | (with_reducible exact blk_new (by first | (simp; done) | omega)) | (with_reducible refine blk_drew ?_) | (with_reducible apply put1_0) | (with_reducible apply put2_0) | (with_reducible apply put2_1) | (with_reducible apply put3_0) | (with_reducible apply put3_1) | (with_reducible apply put3_2) | (with_reducible apply put4_0) | (with_reducible apply put4_1) | (with_reducible apply put4_2) | (with_reducible apply put4_3) | (with_reducible apply put5_0) | (with_reducible apply put5_1) | (with_reducible apply put5_2) | (with_reducible apply put5_3) | (with_reducible apply put5_4) | (with_reducible apply put6_0) | (with_reducible apply put6_1) | (with_reducible apply put6_2) | (with_reducible apply put6_3) | (with_reducible apply put6_4) | (with_reducible apply put6_5) | (with_reducible refine blk_else (by omega) ?_) | (with_reducible refine blk_old ?_)))
        have Xa : v1.heap[Ba]? = some (.cells #[.int .u64 s, .int .u64 q, .int .u64 n, .int .u64 f, .int .u64 a, .int .u64 b] 34 (0, 0)) := by
          rw [hv1]
          (repeat' (first | (with_reducible exact Hz1.out) | (with_reducible exact Ha1.out) | (with_reducible exact heap_alloc_new _ _) | (with_reducible exact blk_new (by first | (simp; done) | omega)) | (with_reducible refine blk_drew ?_) | (with_reducible apply put1_0) | (with_reducible apply put2_0) | (with_reducible apply put2_1) | (with_reducible apply put3_0) | (with_reducible apply put3_1) | (with_reducible apply put3_2) | (with_reducible apply put4_0) | (with_reducible apply put4_1) | (with_reducible apply put4_2) | (with_reducible apply put4_3) | (with_reducible apply put5_0) | (with_reducible apply put5_1) | (with_reducible apply put5_2) | (with_reducible apply put5_3) | (with_reducible apply put5_4) | (with_reducible apply put6_0) | (with_reducible apply put6_1) | (with_reducible apply put6_2) | (with_reducible apply put6_3) | (with_reducible apply put6_4) | (with_reducible apply put6_5) | (with_reducible refine blk_else (by omega) ?_) | (with_reducible refine blk_old ?_)))
        have XB : Below w.heap.size w v1 := by
          rw [hv1]
          (repeat' (first | (with_reducible exact HB1.out) | (with_reducible exact Below.refl _ _) | (with_reducible refine below_drewN _ ?_) | (with_reducible refine Below.drew ?_) | (with_reducible refine Below.setCell ?_ (by first | (simp; done) | omega) _) | (with_reducible refine Below.alloc ?_ (by have := HB1.out.size; simp; omega) _)))
        clear z0_ z1_ z2_ z3_ z4_ z5_ zf0_ zf1_ zf2_ zf3_ zf4_ zf5_ zn_ zm_ zl_ a0_ a1_ a2_ a3_ a4_ a5_ af0_ af1_ af2_ af3_ af4_ af5_ an_ am_ al_
        clear hv1 Hz1 Ha1 HB1
        have Hz2 := Lib.hid Xz
        have Ha2 := Lib.hid Xa
        have HB2 := Lib.hid XB
        clear Xz Xa XB
        obtain ⟨z0_, z1_, z2_, z3_, z4_, z5_, zf0_, zf1_, zf2_, zf3_, zf4_, zf5_⟩ := at6 Hz2.out
        have zn_ := ne_blk Hz2.out
        have zm_ := Ne.symm (a := Bz) zn_
        have zl_ := lt_blk Hz2.out
        obtain ⟨a0_, a1_, a2_, a3_, a4_, a5_, af0_, af1_, af2_, af3_, af4_, af5_⟩ := at6 Ha2.out
        have an_ := ne_blk Ha2.out
        have am_ := Ne.symm (a := Ba) an_
        have al_ := lt_blk Ha2.out
        refine wp_region_still_tail 9 (by kernel_rfl) (by kernel_rfl) ?_
        simp only [List.take_succ_cons, List.take_zero, List.drop_succ_cons, List.drop_zero]
        repeat still_step
        still_call (A1.out _)
        repeat still_step
        refine wpStill_nil ?_
        change wpList _ _ _ _ _ (World.drew _)
        go_wp2
        refine wp_genc ?_
        intro v2 hv2
        have Xz : v2.heap[Bz]? = some (.cells #[.int .u64 0, .int .u64 0, .int .u64 0, .int .u64 0, .int .u64 0, .int .u64 0] 34 (0, 0)) := by
          rw [hv2]
          (repeat' (first | (with_reducible exact Hz2.out) | (with_reducible exact Ha2.out) | (with_reducible exact heap_alloc_new _ _) | (with_reducible exact blk_new (by first | (simp; done) | omega)) | (with_reducible refine blk_drew ?_) | (with_reducible apply put1_0) | (with_reducible apply put2_0) | (with_reducible apply put2_1) | (with_reducible apply put3_0) | (with_reducible apply put3_1) | (with_reducible apply put3_2) | (with_reducible apply put4_0) | (with_reducible apply put4_1) | (with_reducible apply put4_2) | (with_reducible apply put4_3) | (with_reducible apply put5_0) | (with_reducible apply put5_1) | (with_reducible apply put5_2) | (with_reducible apply put5_3) | (with_reducible apply put5_4) | (with_reducible apply put6_0) | (with_reducible apply put6_1) | (with_reducible apply put6_2) | (with_reducible apply put6_3) | (with_reducible apply put6_4) | (with_reducible apply put6_5) | (with_reducible refine blk_else (by omega) ?_) | (with_reducible refine blk_old ?_)))
        have Xa : v2.heap[Ba]? = some (.cells #[.int .u64 s, .int .u64 q, .int .u64 n, .int .u64 f, .int .u64 n, .int .u64 b] 34 (0, 0)) := by
          rw [hv2]
          (repeat' (first | (with_reducible exact Hz2.out) | (with_reducible exact Ha2.out) | (with_reducible exact heap_alloc_new _ _) | (with_reducible exact blk_new (by first | (simp; done) | omega)) | (with_reducible refine blk_drew ?_) | (with_reducible apply put1_0) | (with_reducible apply put2_0) | (with_reducible apply put2_1) | (with_reducible apply put3_0) | (with_reducible apply put3_1) | (with_reducible apply put3_2) | (with_reducible apply put4_0) | (with_reducible apply put4_1) | (with_reducible apply put4_2) | (with_reducible apply put4_3) | (with_reducible apply put5_0) | (with_reducible apply put5_1) | (with_reducible apply put5_2) | (with_reducible apply put5_3) | (with_reducible apply put5_4) | (with_reducible apply put6_0) | (with_reducible apply put6_1) | (with_reducible apply put6_2) | (with_reducible apply put6_3) | (with_reducible apply put6_4) | (with_reducible apply put6_5) | (with_reducible refine blk_else (by omega) ?_) | (with_reducible refine blk_old ?_)))
        have XB : Below w.heap.size w v2 := by
          rw [hv2]
          (repeat' (first | (with_reducible exact HB2.out) | (with_reducible exact Below.refl _ _) | (with_reducible refine below_drewN _ ?_) | (with_reducible refine Below.drew ?_) | (with_reducible refine Below.setCell ?_ (by first | (simp; done) | omega) _) | (with_reducible refine Below.alloc ?_ (by have := HB2.out.size; simp; omega) _)))
        clear z0_ z1_ z2_ z3_ z4_ z5_ zf0_ zf1_ zf2_ zf3_ zf4_ zf5_ zn_ zm_ zl_ a0_ a1_ a2_ a3_ a4_ a5_ af0_ af1_ af2_ af3_ af4_ af5_ an_ am_ al_
        clear hv2 Hz2 Ha2 HB2
        have Hz3 := Lib.hid Xz
        have Ha3 := Lib.hid Xa
        have HB3 := Lib.hid XB
        clear Xz Xa XB
        obtain ⟨z0_, z1_, z2_, z3_, z4_, z5_, zf0_, zf1_, zf2_, zf3_, zf4_, zf5_⟩ := at6 Hz3.out
        have zn_ := ne_blk Hz3.out
        have zm_ := Ne.symm (a := Bz) zn_
        have zl_ := lt_blk Hz3.out
        obtain ⟨a0_, a1_, a2_, a3_, a4_, a5_, af0_, af1_, af2_, af3_, af4_, af5_⟩ := at6 Ha3.out
        have an_ := ne_blk Ha3.out
        have am_ := Ne.symm (a := Ba) an_
        have al_ := lt_blk Ha3.out
        refine wp_region_still_tail 9 (by kernel_rfl) (by kernel_rfl) ?_
        simp only [List.take_succ_cons, List.take_zero, List.drop_succ_cons, List.drop_zero]
        repeat still_step
        still_call (A2.out _)
        repeat still_step
        refine wpStill_nil ?_
        change wpList _ _ _ _ _ (World.drew _)
        go_wp2
        (try simp only [Exit.inBlock, Exit.then])
        refine bp_gen ?_
        intro v3 hv3
        have Xz : v3.heap[Bz]? = some (.cells #[.int .u64 s, .int .u64 q, .int .u64 n, .int .u64 f, .int .u64 n, .int .u64 d] 34 (0, 0)) := by
          rw [hv3]
          (repeat' (first | (with_reducible exact Hz3.out) | (with_reducible exact heap_alloc_new _ _) | (with_reducible exact blk_new (by first | (simp; done) | omega)) | (with_reducible refine blk_drew ?_) | (with_reducible apply put1_0) | (with_reducible apply put2_0) | (with_reducible apply put2_1) | (with_reducible apply put3_0) | (with_reducible apply put3_1) | (with_reducible apply put3_2) | (with_reducible apply put4_0) | (with_reducible apply put4_1) | (with_reducible apply put4_2) | (with_reducible apply put4_3) | (with_reducible apply put5_0) | (with_reducible apply put5_1) | (with_reducible apply put5_2) | (with_reducible apply put5_3) | (with_reducible apply put5_4) | (with_reducible apply put6_0) | (with_reducible apply put6_1) | (with_reducible apply put6_2) | (with_reducible apply put6_3) | (with_reducible apply put6_4) | (with_reducible apply put6_5) | (with_reducible refine blk_else (by omega) ?_) | (with_reducible refine blk_old ?_)))
        have XB : Below w.heap.size w v3 := by
          rw [hv3]
          (repeat' (first | (with_reducible exact HB3.out) | (with_reducible exact Below.refl _ _) | (with_reducible refine below_drewN _ ?_) | (with_reducible refine Below.drew ?_) | (with_reducible refine Below.setCell ?_ (by first | (simp; done) | omega) _) | (with_reducible refine Below.alloc ?_ (by have := HB3.out.size; simp; omega) _)))
        clear z0_ z1_ z2_ z3_ z4_ z5_ zf0_ zf1_ zf2_ zf3_ zf4_ zf5_ zn_ zm_ zl_ a0_ a1_ a2_ a3_ a4_ a5_ af0_ af1_ af2_ af3_ af4_ af5_ an_ am_ al_
        clear hv3 Hz3 Ha3 HB3
        obtain ⟨z0_, z1_, z2_, z3_, z4_, z5_, -⟩ := at6 Xz
        refine bodyPost_ret (v := .agg #[.int .u64 s, .int .u64 q, .int .u64 n, .int .u64 f, .int .u64 n, .int .u64 d]) (by simp [results, Try.results17, go_sem, z0_, z1_, z2_, z3_, z4_, z5_]) rfl ⟨rfl, XB⟩
      · have g1 : n < c := by omega
        have mn7 : min c n = n := by omega
        rw [mn7]
        have g2 : f < d := by omega
        have mn8 : min d f = f := by omega
        rw [mn8]
        clear hc hd
        go_enter Try.func17, Try.ntmps17
        go_wp2_with fail
        refine cl_gen ?_
        intro v0 hv0
        have XB : Below w.heap.size w v0 := by
          rw [hv0]
          (repeat' (first | (with_reducible exact Below.refl _ _) | (with_reducible assumption) | (with_reducible refine below_drewN _ ?_) | (with_reducible refine Below.drew ?_) | (with_reducible refine Below.setCell ?_ (by simp) _) | (with_reducible refine Below.alloc ?_ (by simp; try omega) _)))
        have Xa : v0.heap[w.heap.size]? = some (.cells #[.int .u64 s, .int .u64 q, .int .u64 n, .int .u64 f, .int .u64 a, .int .u64 b] 34 (0, 0)) := by
          rw [hv0]
          (repeat' (first | (with_reducible exact heap_alloc_new _ _) | (with_reducible exact blk_new (by first | (simp; done) | omega)) | (with_reducible refine blk_drew ?_) | (with_reducible apply put1_0) | (with_reducible apply put2_0) | (with_reducible apply put2_1) | (with_reducible apply put3_0) | (with_reducible apply put3_1) | (with_reducible apply put3_2) | (with_reducible apply put4_0) | (with_reducible apply put4_1) | (with_reducible apply put4_2) | (with_reducible apply put4_3) | (with_reducible apply put5_0) | (with_reducible apply put5_1) | (with_reducible apply put5_2) | (with_reducible apply put5_3) | (with_reducible apply put5_4) | (with_reducible apply put6_0) | (with_reducible apply put6_1) | (with_reducible apply put6_2) | (with_reducible apply put6_3) | (with_reducible apply put6_4) | (with_reducible apply put6_5) | (with_reducible refine blk_else (by omega) ?_) | (with_reducible refine blk_old ?_)))
        have Xz : v0.heap[w.heap.size + 1]? = some (.cells #[.int .u64 0, .int .u64 0, .int .u64 0, .int .u64 0, .int .u64 0, .int .u64 0] 34 (0, 0)) := by
          rw [hv0]
          (repeat' (first | (with_reducible exact heap_alloc_new _ _) | (with_reducible exact blk_new (by first | (simp; done) | omega)) | (with_reducible refine blk_drew ?_) | (with_reducible apply put1_0) | (with_reducible apply put2_0) | (with_reducible apply put2_1) | (with_reducible apply put3_0) | (with_reducible apply put3_1) | (with_reducible apply put3_2) | (with_reducible apply put4_0) | (with_reducible apply put4_1) | (with_reducible apply put4_2) | (with_reducible apply put4_3) | (with_reducible apply put5_0) | (with_reducible apply put5_1) | (with_reducible apply put5_2) | (with_reducible apply put5_3) | (with_reducible apply put5_4) | (with_reducible apply put6_0) | (with_reducible apply put6_1) | (with_reducible apply put6_2) | (with_reducible apply put6_3) | (with_reducible apply put6_4) | (with_reducible apply put6_5) | (with_reducible refine blk_else (by omega) ?_) | (with_reducible refine blk_old ?_)))
        obtain ⟨Bz, hBz⟩ : ∃ x, x = w.heap.size + 1 := ⟨_, rfl⟩
        rw [← hBz] at Xz
        try rw [← hBz]
        have lez : w.heap.size ≤ Bz := by omega
        obtain ⟨Ba, hBa⟩ : ∃ x, x = w.heap.size := ⟨_, rfl⟩
        rw [← hBa] at Xa
        try rw [← hBa]
        have naz : ¬ Ba = Bz := by omega
        have nza : ¬ Bz = Ba := fun h => naz h.symm
        have lea : w.heap.size ≤ Ba := by omega
        clear hBa hBz
        clear hv0
        refine (VA.out _).mono ?_
        rintro e w1 ⟨rfl, bb⟩
        have Hz1 := Lib.hid (blk_call bb Xz)
        have Ha1 := Lib.hid (blk_call bb Xa)
        have HB1 := Lib.hid (bel_onto XB bb XB.size)
        clear Xz Xa XB bb
        obtain ⟨z0_, z1_, z2_, z3_, z4_, z5_, zf0_, zf1_, zf2_, zf3_, zf4_, zf5_⟩ := at6 Hz1.out
        have zn_ := ne_blk Hz1.out
        have zm_ := Ne.symm (a := Bz) zn_
        have zl_ := lt_blk Hz1.out
        obtain ⟨a0_, a1_, a2_, a3_, a4_, a5_, af0_, af1_, af2_, af3_, af4_, af5_⟩ := at6 Ha1.out
        have an_ := ne_blk Ha1.out
        have am_ := Ne.symm (a := Ba) an_
        have al_ := lt_blk Ha1.out
        go_wp2
        refine wp_genc ?_
        intro v1 hv1
        have Xz : v1.heap[Bz]? = some (.cells #[.int .u64 0, .int .u64 0, .int .u64 0, .int .u64 0, .int .u64 0, .int .u64 0] 34 (0, 0)) := by
          rw [hv1]
          (repeat' (first | (with_reducible exact Hz1.out) | (with_reducible exact Ha1.out) | (with_reducible exact heap_alloc_new _ _) | (with_reducible exact blk_new (by first | (simp; done) | omega)) | (with_reducible refine blk_drew ?_) | (with_reducible apply put1_0) | (with_reducible apply put2_0) | (with_reducible apply put2_1) | (with_reducible apply put3_0) | (with_reducible apply put3_1) | (with_reducible apply put3_2) | (with_reducible apply put4_0) | (with_reducible apply put4_1) | (with_reducible apply put4_2) | (with_reducible apply put4_3) | (with_reducible apply put5_0) | (with_reducible apply put5_1) | (with_reducible apply put5_2) | (with_reducible apply put5_3) | (with_reducible apply put5_4) | (with_reducible apply put6_0) | (with_reducible apply put6_1) | (with_reducible apply put6_2) | (with_reducible apply put6_3) | (with_reducible apply put6_4) | (with_reducible apply put6_5) | (with_reducible refine blk_else (by omega) ?_) | (with_reducible refine blk_old ?_)))
        have Xa : v1.heap[Ba]? = some (.cells #[.int .u64 s, .int .u64 q, .int .u64 n, .int .u64 f, .int .u64 a, .int .u64 b] 34 (0, 0)) := by
          rw [hv1]
          (repeat' (first | (with_reducible exact Hz1.out) | (with_reducible exact Ha1.out) | (with_reducible exact heap_alloc_new _ _) | (with_reducible exact blk_new (by first | (simp; done) | omega)) | (with_reducible refine blk_drew ?_) | (with_reducible apply put1_0) | (with_reducible apply put2_0) | (with_reducible apply put2_1) | (with_reducible apply put3_0) | (with_reducible apply put3_1) | (with_reducible apply put3_2) | (with_reducible apply put4_0) | (with_reducible apply put4_1) | (with_reducible apply put4_2) | (with_reducible apply put4_3) | (with_reducible apply put5_0) | (with_reducible apply put5_1) | (with_reducible apply put5_2) | (with_reducible apply put5_3) | (with_reducible apply put5_4) | (with_reducible apply put6_0) | (with_reducible apply put6_1) | (with_reducible apply put6_2) | (with_reducible apply put6_3) | (with_reducible apply put6_4) | (with_reducible apply put6_5) | (with_reducible refine blk_else (by omega) ?_) | (with_reducible refine blk_old ?_)))
        have XB : Below w.heap.size w v1 := by
          rw [hv1]
          (repeat' (first | (with_reducible exact HB1.out) | (with_reducible exact Below.refl _ _) | (with_reducible refine below_drewN _ ?_) | (with_reducible refine Below.drew ?_) | (with_reducible refine Below.setCell ?_ (by first | (simp; done) | omega) _) | (with_reducible refine Below.alloc ?_ (by have := HB1.out.size; simp; omega) _)))
        clear z0_ z1_ z2_ z3_ z4_ z5_ zf0_ zf1_ zf2_ zf3_ zf4_ zf5_ zn_ zm_ zl_ a0_ a1_ a2_ a3_ a4_ a5_ af0_ af1_ af2_ af3_ af4_ af5_ an_ am_ al_
        clear hv1 Hz1 Ha1 HB1
        have Hz2 := Lib.hid Xz
        have Ha2 := Lib.hid Xa
        have HB2 := Lib.hid XB
        clear Xz Xa XB
        obtain ⟨z0_, z1_, z2_, z3_, z4_, z5_, zf0_, zf1_, zf2_, zf3_, zf4_, zf5_⟩ := at6 Hz2.out
        have zn_ := ne_blk Hz2.out
        have zm_ := Ne.symm (a := Bz) zn_
        have zl_ := lt_blk Hz2.out
        obtain ⟨a0_, a1_, a2_, a3_, a4_, a5_, af0_, af1_, af2_, af3_, af4_, af5_⟩ := at6 Ha2.out
        have an_ := ne_blk Ha2.out
        have am_ := Ne.symm (a := Ba) an_
        have al_ := lt_blk Ha2.out
        refine wp_region_still_tail 9 (by kernel_rfl) (by kernel_rfl) ?_
        simp only [List.take_succ_cons, List.take_zero, List.drop_succ_cons, List.drop_zero]
        repeat still_step
        still_call (A1.out _)
        repeat still_step
        refine wpStill_nil ?_
        change wpList _ _ _ _ _ (World.drew _)
        go_wp2
        refine wp_genc ?_
        intro v2 hv2
        have Xz : v2.heap[Bz]? = some (.cells #[.int .u64 0, .int .u64 0, .int .u64 0, .int .u64 0, .int .u64 0, .int .u64 0] 34 (0, 0)) := by
          rw [hv2]
          (repeat' (first | (with_reducible exact Hz2.out) | (with_reducible exact Ha2.out) | (with_reducible exact heap_alloc_new _ _) | (with_reducible exact blk_new (by first | (simp; done) | omega)) | (with_reducible refine blk_drew ?_) | (with_reducible apply put1_0) | (with_reducible apply put2_0) | (with_reducible apply put2_1) | (with_reducible apply put3_0) | (with_reducible apply put3_1) | (with_reducible apply put3_2) | (with_reducible apply put4_0) | (with_reducible apply put4_1) | (with_reducible apply put4_2) | (with_reducible apply put4_3) | (with_reducible apply put5_0) | (with_reducible apply put5_1) | (with_reducible apply put5_2) | (with_reducible apply put5_3) | (with_reducible apply put5_4) | (with_reducible apply put6_0) | (with_reducible apply put6_1) | (with_reducible apply put6_2) | (with_reducible apply put6_3) | (with_reducible apply put6_4) | (with_reducible apply put6_5) | (with_reducible refine blk_else (by omega) ?_) | (with_reducible refine blk_old ?_)))
        have Xa : v2.heap[Ba]? = some (.cells #[.int .u64 s, .int .u64 q, .int .u64 n, .int .u64 f, .int .u64 n, .int .u64 b] 34 (0, 0)) := by
          rw [hv2]
          (repeat' (first | (with_reducible exact Hz2.out) | (with_reducible exact Ha2.out) | (with_reducible exact heap_alloc_new _ _) | (with_reducible exact blk_new (by first | (simp; done) | omega)) | (with_reducible refine blk_drew ?_) | (with_reducible apply put1_0) | (with_reducible apply put2_0) | (with_reducible apply put2_1) | (with_reducible apply put3_0) | (with_reducible apply put3_1) | (with_reducible apply put3_2) | (with_reducible apply put4_0) | (with_reducible apply put4_1) | (with_reducible apply put4_2) | (with_reducible apply put4_3) | (with_reducible apply put5_0) | (with_reducible apply put5_1) | (with_reducible apply put5_2) | (with_reducible apply put5_3) | (with_reducible apply put5_4) | (with_reducible apply put6_0) | (with_reducible apply put6_1) | (with_reducible apply put6_2) | (with_reducible apply put6_3) | (with_reducible apply put6_4) | (with_reducible apply put6_5) | (with_reducible refine blk_else (by omega) ?_) | (with_reducible refine blk_old ?_)))
        have XB : Below w.heap.size w v2 := by
          rw [hv2]
          (repeat' (first | (with_reducible exact HB2.out) | (with_reducible exact Below.refl _ _) | (with_reducible refine below_drewN _ ?_) | (with_reducible refine Below.drew ?_) | (with_reducible refine Below.setCell ?_ (by first | (simp; done) | omega) _) | (with_reducible refine Below.alloc ?_ (by have := HB2.out.size; simp; omega) _)))
        clear z0_ z1_ z2_ z3_ z4_ z5_ zf0_ zf1_ zf2_ zf3_ zf4_ zf5_ zn_ zm_ zl_ a0_ a1_ a2_ a3_ a4_ a5_ af0_ af1_ af2_ af3_ af4_ af5_ an_ am_ al_
        clear hv2 Hz2 Ha2 HB2
        have Hz3 := Lib.hid Xz
        have Ha3 := Lib.hid Xa
        have HB3 := Lib.hid XB
        clear Xz Xa XB
        obtain ⟨z0_, z1_, z2_, z3_, z4_, z5_, zf0_, zf1_, zf2_, zf3_, zf4_, zf5_⟩ := at6 Hz3.out
        have zn_ := ne_blk Hz3.out
        have zm_ := Ne.symm (a := Bz) zn_
        have zl_ := lt_blk Hz3.out
        obtain ⟨a0_, a1_, a2_, a3_, a4_, a5_, af0_, af1_, af2_, af3_, af4_, af5_⟩ := at6 Ha3.out
        have an_ := ne_blk Ha3.out
        have am_ := Ne.symm (a := Ba) an_
        have al_ := lt_blk Ha3.out
        refine wp_region_still_tail 9 (by kernel_rfl) (by kernel_rfl) ?_
        simp only [List.take_succ_cons, List.take_zero, List.drop_succ_cons, List.drop_zero]
        repeat still_step
        still_call (A2.out _)
        repeat still_step
        refine wpStill_nil ?_
        change wpList _ _ _ _ _ (World.drew _)
        go_wp2
        (try simp only [Exit.inBlock, Exit.then])
        refine bp_gen ?_
        intro v3 hv3
        have Xz : v3.heap[Bz]? = some (.cells #[.int .u64 s, .int .u64 q, .int .u64 n, .int .u64 f, .int .u64 n, .int .u64 f] 34 (0, 0)) := by
          rw [hv3]
          (repeat' (first | (with_reducible exact Hz3.out) | (with_reducible exact heap_alloc_new _ _) | (with_reducible exact blk_new (by first | (simp; done) | omega)) | (with_reducible refine blk_drew ?_) | (with_reducible apply put1_0) | (with_reducible apply put2_0) | (with_reducible apply put2_1) | (with_reducible apply put3_0) | (with_reducible apply put3_1) | (with_reducible apply put3_2) | (with_reducible apply put4_0) | (with_reducible apply put4_1) | (with_reducible apply put4_2) | (with_reducible apply put4_3) | (with_reducible apply put5_0) | (with_reducible apply put5_1) | (with_reducible apply put5_2) | (with_reducible apply put5_3) | (with_reducible apply put5_4) | (with_reducible apply put6_0) | (with_reducible apply put6_1) | (with_reducible apply put6_2) | (with_reducible apply put6_3) | (with_reducible apply put6_4) | (with_reducible apply put6_5) | (with_reducible refine blk_else (by omega) ?_) | (with_reducible refine blk_old ?_)))
        have XB : Below w.heap.size w v3 := by
          rw [hv3]
          (repeat' (first | (with_reducible exact HB3.out) | (with_reducible exact Below.refl _ _) | (with_reducible refine below_drewN _ ?_) | (with_reducible refine Below.drew ?_) | (with_reducible refine Below.setCell ?_ (by first | (simp; done) | omega) _) | (with_reducible refine Below.alloc ?_ (by have := HB3.out.size; simp; omega) _)))
        clear z0_ z1_ z2_ z3_ z4_ z5_ zf0_ zf1_ zf2_ zf3_ zf4_ zf5_ zn_ zm_ zl_ a0_ a1_ a2_ a3_ a4_ a5_ af0_ af1_ af2_ af3_ af4_ af5_ an_ am_ al_
        clear hv3 Hz3 Ha3 HB3
        obtain ⟨z0_, z1_, z2_, z3_, z4_, z5_, -⟩ := at6 Xz
        refine bodyPost_ret (v := .agg #[.int .u64 s, .int .u64 q, .int .u64 n, .int .u64 f, .int .u64 n, .int .u64 f]) (by simp [results, Try.results17, go_sem, z0_, z1_, z2_, z3_, z4_, z5_]) rfl ⟨rfl, XB⟩
  · rw [show MT.tick ⟨s, q, n, f, a, b⟩ x = ⟨0, 0, 0, 0, 0, 0⟩ from if_neg hok]
    rw [decide_eq_false hok] at VA
    simp only [mt_val]
    clear hok
    go_enter Try.func17, Try.ntmps17
    go_wp2_with fail
    refine cl_gen ?_
    intro v0 hv0
    have XB : Below w.heap.size w v0 := by
      rw [hv0]
      (repeat' (first | (with_reducible exact Below.refl _ _) | (with_reducible assumption) | (with_reducible refine below_drewN _ ?_) | (with_reducible refine Below.drew ?_) | (with_reducible refine Below.setCell ?_ (by simp) _) | (with_reducible refine Below.alloc ?_ (by simp; try omega) _)))
    have Xa : v0.heap[w.heap.size]? = some (.cells #[.int .u64 s, .int .u64 q, .int .u64 n, .int .u64 f, .int .u64 a, .int .u64 b] 34 (0, 0)) := by
      rw [hv0]
      (repeat' (first | (with_reducible exact heap_alloc_new _ _) | (with_reducible exact blk_new (by first | (simp; done) | omega)) | (with_reducible refine blk_drew ?_) | (with_reducible apply put1_0) | (with_reducible apply put2_0) | (with_reducible apply put2_1) | (with_reducible apply put3_0) | (with_reducible apply put3_1) | (with_reducible apply put3_2) | (with_reducible apply put4_0) | (with_reducible apply put4_1) | (with_reducible apply put4_2) | (with_reducible apply put4_3) | (with_reducible apply put5_0) | (with_reducible apply put5_1) | (with_reducible apply put5_2) | (with_reducible apply put5_3) | (with_reducible apply put5_4) | (with_reducible apply put6_0) | (with_reducible apply put6_1) | (with_reducible apply put6_2) | (with_reducible apply put6_3) | (with_reducible apply put6_4) | (with_reducible apply put6_5) | (with_reducible refine blk_else (by omega) ?_) | (with_reducible refine blk_old ?_)))
    have Xz : v0.heap[w.heap.size + 1]? = some (.cells #[.int .u64 0, .int .u64 0, .int .u64 0, .int .u64 0, .int .u64 0, .int .u64 0] 34 (0, 0)) := by
      rw [hv0]
      (repeat' (first | (with_reducible exact heap_alloc_new _ _) | (with_reducible exact blk_new (by first | (simp; done) | omega)) | (with_reducible refine blk_drew ?_) | (with_reducible apply put1_0) | (with_reducible apply put2_0) | (with_reducible apply put2_1) | (with_reducible apply put3_0) | (with_reducible apply put3_1) | (with_reducible apply put3_2) | (with_reducible apply put4_0) | (with_reducible apply put4_1) | (with_reducible apply put4_2) | (with_reducible apply put4_3) | (with_reducible apply put5_0) | (with_reducible apply put5_1) | (with_reducible apply put5_2) | (with_reducible apply put5_3) | (with_reducible apply put5_4) | (with_reducible apply put6_0) | (with_reducible apply put6_1) | (with_reducible apply put6_2) | (with_reducible apply put6_3) | (with_reducible apply put6_4) | (with_reducible apply put6_5) | (with_reducible refine blk_else (by omega) ?_) | (with_reducible refine blk_old ?_)))
    obtain ⟨Bz, hBz⟩ : ∃ x, x = w.heap.size + 1 := ⟨_, rfl⟩
    rw [← hBz] at Xz
    try rw [← hBz]
    have lez : w.heap.size ≤ Bz := by omega
    obtain ⟨Ba, hBa⟩ : ∃ x, x = w.heap.size := ⟨_, rfl⟩
    rw [← hBa] at Xa
    try rw [← hBa]
    have naz : ¬ Ba = Bz := by omega
    have nza : ¬ Bz = Ba := fun h => naz h.symm
    have lea : w.heap.size ≤ Ba := by omega
    clear hBa hBz
    clear hv0
    refine (VA.out _).mono ?_
    rintro e w1 ⟨rfl, bb⟩
    have Hz1 := Lib.hid (blk_call bb Xz)
    have Ha1 := Lib.hid (blk_call bb Xa)
    have HB1 := Lib.hid (bel_onto XB bb XB.size)
    clear Xz Xa XB bb
    obtain ⟨z0_, z1_, z2_, z3_, z4_, z5_, zf0_, zf1_, zf2_, zf3_, zf4_, zf5_⟩ := at6 Hz1.out
    have zn_ := ne_blk Hz1.out
    have zm_ := Ne.symm (a := Bz) zn_
    have zl_ := lt_blk Hz1.out
    obtain ⟨a0_, a1_, a2_, a3_, a4_, a5_, af0_, af1_, af2_, af3_, af4_, af5_⟩ := at6 Ha1.out
    have an_ := ne_blk Ha1.out
    have am_ := Ne.symm (a := Ba) an_
    have al_ := lt_blk Ha1.out
    go_wp2
    (try simp only [Exit.inBlock, Exit.then])
    refine bp_gen ?_
    intro v1 hv1
    have Xz : v1.heap[Bz]? = some (.cells #[.int .u64 0, .int .u64 0, .int .u64 0, .int .u64 0, .int .u64 0, .int .u64 0] 34 (0, 0)) := by
      rw [hv1]
      (repeat' (first | (with_reducible exact Hz1.out) | (with_reducible exact heap_alloc_new _ _) | (with_reducible exact blk_new (by first | (simp; done) | omega)) | (with_reducible refine blk_drew ?_) | (with_reducible apply put1_0) | (with_reducible apply put2_0) | (with_reducible apply put2_1) | (with_reducible apply put3_0) | (with_reducible apply put3_1) | (with_reducible apply put3_2) | (with_reducible apply put4_0) | (with_reducible apply put4_1) | (with_reducible apply put4_2) | (with_reducible apply put4_3) | (with_reducible apply put5_0) | (with_reducible apply put5_1) | (with_reducible apply put5_2) | (with_reducible apply put5_3) | (with_reducible apply put5_4) | (with_reducible apply put6_0) | (with_reducible apply put6_1) | (with_reducible apply put6_2) | (with_reducible apply put6_3) | (with_reducible apply put6_4) | (with_reducible apply put6_5) | (with_reducible refine blk_else (by omega) ?_) | (with_reducible refine blk_old ?_)))
    have XB : Below w.heap.size w v1 := by
      rw [hv1]
      (repeat' (first | (with_reducible exact HB1.out) | (with_reducible exact Below.refl _ _) | (with_reducible refine below_drewN _ ?_) | (with_reducible refine Below.drew ?_) | (with_reducible refine Below.setCell ?_ (by first | (simp; done) | omega) _) | (with_reducible refine Below.alloc ?_ (by have := HB1.out.size; simp; omega) _)))
    clear z0_ z1_ z2_ z3_ z4_ z5_ zf0_ zf1_ zf2_ zf3_ zf4_ zf5_ zn_ zm_ zl_ a0_ a1_ a2_ a3_ a4_ a5_ af0_ af1_ af2_ af3_ af4_ af5_ an_ am_ al_
    clear hv1 Hz1 Ha1 HB1
    obtain ⟨z0_, z1_, z2_, z3_, z4_, z5_, -⟩ := at6 Xz
    refine bodyPost_ret (v := .agg #[.int .u64 0, .int .u64 0, .int .u64 0, .int .u64 0, .int .u64 0, .int .u64 0]) (by simp [results, Try.results17, go_sem, z0_, z1_, z2_, z3_, z4_, z5_]) rfl ⟨rfl, XB⟩
end Go.Proofs.Ytmkgadndfiiacaa
