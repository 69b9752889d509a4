/-
  What credit.Tick returns for any class and ticks. No condition but that the ticks are a word.
-/
import Derived.Test.YtcieggckmpabnaaCr1
namespace Go.Proofs.Ytcieggckmpabnaa
set_option linter.unusedVariables false
set_option linter.unusedSimpArgs false
open Go.ChangeShapes Go.WideShapes Go.ChangeAt Go.RowKit
attribute [local go_sem] alloc_drewN setCell_drewN

set_option maxRecDepth 100000 in
set_option maxHeartbeats 4000000 in
theorem cr_tick (c : CD) (x : Int) (x0 : 0 ≤ x) (x1 : x ≤ 18446744073709551615) (b : Bool) (w : World) :
    Calls Try.prog 59 #[c.val, .int .u64 x, .bool b] w fun e w' => e = .returned (c.tick x b).val ∧ Below w.heap.size w w' := by
  obtain ⟨i, s, h, v⟩ := c
  have CK := Lib.hid (fun W => (cr_check i s h v W).mono (fun e w' h => (⟨h.1, h.2 ▸ (Below.refl _ W).alloc (Nat.le_refl _) _⟩ : _ ∧ Below W.heap.size W w')))
  by_cases hok : CD.ok ⟨i, s, h, v⟩
  · rw [show cre i s h v = 0 from if_pos hok] at CK
    obtain ⟨⟨i0, i1⟩, ⟨s0, s1⟩, ⟨h0, h1⟩, v0, v1⟩ := id hok
    dsimp only at i0 i1 s0 s1 h0 h1 v0 v1
    obtain ⟨M, hM⟩ : ∃ M, M = if b = true then h else 0 := ⟨_, rfl⟩
    have hMb : 0 ≤ M ∧ M ≤ 1048576 := by split at hM <;> omega
    have TT := Lib.hid (fun W => cr_to i s h v M i0 i1 v0 (by omega) hMb.1 hMb.2 W)
    obtain ⟨n0, n1, n2, n3⟩ := need_is (v := v) (m := M) i0
    have ix : 0 ≤ i * x := Int.mul_nonneg (by omega) x0
    by_cases hx : need i v M ≤ x
    · have hR : (CD.tick ⟨i, s, h, v⟩ x b) = ⟨i, s, h, M⟩ := by
        have k1 : i * need i v M ≤ i * x := Int.mul_le_mul_of_nonneg_left hx (by omega)
        unfold CD.tick
        rw [if_pos hok]
        congr 1
        dsimp only
        cases b with
        | true => rw [if_pos rfl] at hM ⊢; omega
        | false =>
          rw [if_neg (by decide)] at hM ⊢
          split <;> omega
      rw [hR]
      have gx : decide (need i v M ≤ x) = true := decide_eq_true hx
      generalize need i v M = N at *
      simp only [cd_val]
      clear hR hok n1 n2 n3 hx ix
      cases b with
      | true =>
        obtain rfl : M = h := hM
        go_enter Try.func59, Try.ntmps59
        go_wp2_with fail
        refine cl_gen ?_
        intro v0 hv0
        have XB : Below w.heap.size w v0 := by
          rw [hv0]
          (repeat' (first | (with_reducible exact Below.refl _ _) | (with_reducible assumption) | (with_reducible refine below_drewN _ ?_) | (with_reducible refine Below.drew ?_) | (with_reducible refine Below.setCell ?_ (by simp) _) | (with_reducible refine Below.alloc ?_ (by simp; try omega) _)))
        have Xa : v0.heap[w.heap.size]? = some (.cells #[.int .i64 i, .int .i64 s, .int .i64 M, .int .i64 v] 123 (0, 0)) := by
          rw [hv0]
          (repeat' (first | (with_reducible exact heap_alloc_new _ _) | (with_reducible exact blk_new (by first | (simp; done) | omega)) | (with_reducible refine blk_drew ?_) | (with_reducible apply put1_0) | (with_reducible apply put2_0) | (with_reducible apply put2_1) | (with_reducible apply put3_0) | (with_reducible apply put3_1) | (with_reducible apply put3_2) | (with_reducible apply put4_0) | (with_reducible apply put4_1) | (with_reducible apply put4_2) | (with_reducible apply put4_3) | (with_reducible apply put5_0) | (with_reducible apply put5_1) | (with_reducible apply put5_2) | (with_reducible apply put5_3) | (with_reducible apply put5_4) | (with_reducible apply put6_0) | (with_reducible apply put6_1) | (with_reducible apply put6_2) | (with_reducible apply put6_3) | (with_reducible apply put6_4) | (with_reducible apply put6_5) | (with_reducible refine blk_else (by omega) ?_) | (with_reducible refine blk_old ?_)))
        have Xz : v0.heap[w.heap.size + 1]? = some (.cells #[.int .i64 0, .int .i64 0, .int .i64 0, .int .i64 0] 123 (0, 0)) := by
          rw [hv0]
          (repeat' (first | (with_reducible exact heap_alloc_new _ _) | (with_reducible exact blk_new (by first | (simp; done) | omega)) | (with_reducible refine blk_drew ?_) | (with_reducible apply put1_0) | (with_reducible apply put2_0) | (with_reducible apply put2_1) | (with_reducible apply put3_0) | (with_reducible apply put3_1) | (with_reducible apply put3_2) | (with_reducible apply put4_0) | (with_reducible apply put4_1) | (with_reducible apply put4_2) | (with_reducible apply put4_3) | (with_reducible apply put5_0) | (with_reducible apply put5_1) | (with_reducible apply put5_2) | (with_reducible apply put5_3) | (with_reducible apply put5_4) | (with_reducible apply put6_0) | (with_reducible apply put6_1) | (with_reducible apply put6_2) | (with_reducible apply put6_3) | (with_reducible apply put6_4) | (with_reducible apply put6_5) | (with_reducible refine blk_else (by omega) ?_) | (with_reducible refine blk_old ?_)))
        obtain ⟨Bz, hBz⟩ : ∃ x, x = w.heap.size + 1 := ⟨_, rfl⟩
        rw [← hBz] at Xz
        try rw [← hBz]
        have lez : w.heap.size ≤ Bz := by omega
        obtain ⟨Ba, hBa⟩ : ∃ x, x = w.heap.size := ⟨_, rfl⟩
        rw [← hBa] at Xa
        try rw [← hBa]
        have naz : ¬ Ba = Bz := by omega
        have nza : ¬ Bz = Ba := fun h => naz h.symm
        have lea : w.heap.size ≤ Ba := by omega
        clear hBa hBz
        clear hv0
        refine (CK.out _).mono ?_
        rintro e w1 ⟨rfl, bb⟩
        have Hz1 := Lib.hid (blk_call bb Xz)
        have Ha1 := Lib.hid (blk_call bb Xa)
        have HB1 := Lib.hid (bel_onto XB bb XB.size)
        clear Xz Xa XB bb
        obtain ⟨z0_, z1_, z2_, z3_, zf0_, zf1_, zf2_, zf3_⟩ := at4 Hz1.out
        have zn_ := ne_blk Hz1.out
        have zm_ := Ne.symm (a := Bz) zn_
        have zl_ := lt_blk Hz1.out
        obtain ⟨a0_, a1_, a2_, a3_, af0_, af1_, af2_, af3_⟩ := at4 Ha1.out
        have an_ := ne_blk Ha1.out
        have am_ := Ne.symm (a := Ba) an_
        have al_ := lt_blk Ha1.out
        go_wp2_with fail
        refine cl_gen ?_
        intro v1 hv1
        have Xz : v1.heap[Bz]? = some (.cells #[.int .i64 0, .int .i64 0, .int .i64 0, .int .i64 0] 123 (0, 0)) := by
          rw [hv1]
          (repeat' (first | (with_reducible exact Hz1.out) | (with_reducible exact Ha1.out) | (with_reducible exact heap_alloc_new _ _) | (with_reducible exact blk_new (by first | (simp; done) | omega)) | (with_reducible refine blk_drew ?_) | (with_reducible apply put1_0) | (with_reducible apply put2_0) | (with_reducible apply put2_1) | (with_reducible apply put3_0) | (with_reducible apply put3_1) | (with_reducible apply put3_2) | (with_reducible apply put4_0) | (with_reducible apply put4_1) | (with_reducible apply put4_2) | (with_reducible apply put4_3) | (with_reducible apply put5_0) | (with_reducible apply put5_1) | (with_reducible apply put5_2) | (with_reducible apply put5_3) | (with_reducible apply put5_4) | (with_reducible apply put6_0) | (with_reducible apply put6_1) | (with_reducible apply put6_2) | (with_reducible apply put6_3) | (with_reducible apply put6_4) | (with_reducible apply put6_5) | (with_reducible refine blk_else (by omega) ?_) | (with_reducible refine blk_old ?_)))
        have Xa : v1.heap[Ba]? = some (.cells #[.int .i64 i, .int .i64 s, .int .i64 M, .int .i64 v] 123 (0, 0)) := by
          rw [hv1]
          (repeat' (first | (with_reducible exact Hz1.out) | (with_reducible exact Ha1.out) | (with_reducible exact heap_alloc_new _ _) | (with_reducible exact blk_new (by first | (simp; done) | omega)) | (with_reducible refine blk_drew ?_) | (with_reducible apply put1_0) | (with_reducible apply put2_0) | (with_reducible apply put2_1) | (with_reducible apply put3_0) | (with_reducible apply put3_1) | (with_reducible apply put3_2) | (with_reducible apply put4_0) | (with_reducible apply put4_1) | (with_reducible apply put4_2) | (with_reducible apply put4_3) | (with_reducible apply put5_0) | (with_reducible apply put5_1) | (with_reducible apply put5_2) | (with_reducible apply put5_3) | (with_reducible apply put5_4) | (with_reducible apply put6_0) | (with_reducible apply put6_1) | (with_reducible apply put6_2) | (with_reducible apply put6_3) | (with_reducible apply put6_4) | (with_reducible apply put6_5) | (with_reducible refine blk_else (by omega) ?_) | (with_reducible refine blk_old ?_)))
        have XB : Below w.heap.size w v1 := by
          rw [hv1]
          (repeat' (first | (with_reducible exact HB1.out) | (with_reducible exact Below.refl _ _) | (with_reducible refine below_drewN _ ?_) | (with_reducible refine Below.drew ?_) | (with_reducible refine Below.setCell ?_ (by first | (simp; done) | omega) _) | (with_reducible refine Below.alloc ?_ (by have := HB1.out.size; simp; omega) _)))
        clear z0_ z1_ z2_ z3_ zf0_ zf1_ zf2_ zf3_ zn_ zm_ zl_ a0_ a1_ a2_ a3_ af0_ af1_ af2_ af3_ an_ am_ al_
        clear hv1 Hz1 Ha1 HB1
        refine (TT.out _).mono ?_
        rintro e w2 ⟨rfl, bb⟩
        have Hz2 := Lib.hid (blk_call bb Xz)
        have Ha2 := Lib.hid (blk_call bb Xa)
        have HB2 := Lib.hid (bel_onto XB bb XB.size)
        clear Xz Xa XB bb
        obtain ⟨z0_, z1_, z2_, z3_, zf0_, zf1_, zf2_, zf3_⟩ := at4 Hz2.out
        have zn_ := ne_blk Hz2.out
        have zm_ := Ne.symm (a := Bz) zn_
        have zl_ := lt_blk Hz2.out
        obtain ⟨a0_, a1_, a2_, a3_, af0_, af1_, af2_, af3_⟩ := at4 Ha2.out
        have an_ := ne_blk Ha2.out
        have am_ := Ne.symm (a := Ba) an_
        have al_ := lt_blk Ha2.out
        go_wp2
        (try simp only [Exit.inBlock, Exit.then])
        refine bp_gen ?_
        intro v2 hv2
        have Xz : v2.heap[Bz]? = some (.cells #[.int .i64 i, .int .i64 s, .int .i64 M, .int .i64 M] 123 (0, 0)) := by
          rw [hv2]
          (repeat' (first | (with_reducible exact Hz2.out) | (with_reducible exact heap_alloc_new _ _) | (with_reducible exact blk_new (by first | (simp; done) | omega)) | (with_reducible refine blk_drew ?_) | (with_reducible apply put1_0) | (with_reducible apply put2_0) | (with_reducible apply put2_1) | (with_reducible apply put3_0) | (with_reducible apply put3_1) | (with_reducible apply put3_2) | (with_reducible apply put4_0) | (with_reducible apply put4_1) | (with_reducible apply put4_2) | (with_reducible apply put4_3) | (with_reducible apply put5_0) | (with_reducible apply put5_1) | (with_reducible apply put5_2) | (with_reducible apply put5_3) | (with_reducible apply put5_4) | (with_reducible apply put6_0) | (with_reducible apply put6_1) | (with_reducible apply put6_2) | (with_reducible apply put6_3) | (with_reducible apply put6_4) | (with_reducible apply put6_5) | (with_reducible refine blk_else (by omega) ?_) | (with_reducible refine blk_old ?_)))
        have XB : Below w.heap.size w v2 := by
          rw [hv2]
          (repeat' (first | (with_reducible exact HB2.out) | (with_reducible exact Below.refl _ _) | (with_reducible refine below_drewN _ ?_) | (with_reducible refine Below.drew ?_) | (with_reducible refine Below.setCell ?_ (by first | (simp; done) | omega) _) | (with_reducible refine Below.alloc ?_ (by have := HB2.out.size; simp; omega) _)))
        clear z0_ z1_ z2_ z3_ zf0_ zf1_ zf2_ zf3_ zn_ zm_ zl_ a0_ a1_ a2_ a3_ af0_ af1_ af2_ af3_ an_ am_ al_
        clear hv2 Hz2 Ha2 HB2
        obtain ⟨z0_, z1_, z2_, z3_, -⟩ := at4 Xz
        refine bodyPost_ret (v := .agg #[.int .i64 i, .int .i64 s, .int .i64 M, .int .i64 M]) (by simp [results, Try.results59, go_sem, z0_, z1_, z2_, z3_]) rfl ⟨rfl, XB⟩
      | false =>
        obtain rfl : M = 0 := hM
        go_enter Try.func59, Try.ntmps59
        go_wp2_with fail
        refine cl_gen ?_
        intro v0 hv0
        have XB : Below w.heap.size w v0 := by
          rw [hv0]
          (repeat' (first | (with_reducible exact Below.refl _ _) | (with_reducible assumption) | (with_reducible refine below_drewN _ ?_) | (with_reducible refine Below.drew ?_) | (with_reducible refine Below.setCell ?_ (by simp) _) | (with_reducible refine Below.alloc ?_ (by simp; try omega) _)))
        have Xa : v0.heap[w.heap.size]? = some (.cells #[.int .i64 i, .int .i64 s, .int .i64 h, .int .i64 v] 123 (0, 0)) := by
          rw [hv0]
          (repeat' (first | (with_reducible exact heap_alloc_new _ _) | (with_reducible exact blk_new (by first | (simp; done) | omega)) | (with_reducible refine blk_drew ?_) | (with_reducible apply put1_0) | (with_reducible apply put2_0) | (with_reducible apply put2_1) | (with_reducible apply put3_0) | (with_reducible apply put3_1) | (with_reducible apply put3_2) | (with_reducible apply put4_0) | (with_reducible apply put4_1) | (with_reducible apply put4_2) | (with_reducible apply put4_3) | (with_reducible apply put5_0) | (with_reducible apply put5_1) | (with_reducible apply put5_2) | (with_reducible apply put5_3) | (with_reducible apply put5_4) | (with_reducible apply put6_0) | (with_reducible apply put6_1) | (with_reducible apply put6_2) | (with_reducible apply put6_3) | (with_reducible apply put6_4) | (with_reducible apply put6_5) | (with_reducible refine blk_else (by omega) ?_) | (with_reducible refine blk_old ?_)))
        have Xz : v0.heap[w.heap.size + 1]? = some (.cells #[.int .i64 0, .int .i64 0, .int .i64 0, .int .i64 0] 123 (0, 0)) := by
          rw [hv0]
          (repeat' (first | (with_reducible exact heap_alloc_new _ _) | (with_reducible exact blk_new (by first | (simp; done) | omega)) | (with_reducible refine blk_drew ?_) | (with_reducible apply put1_0) | (with_reducible apply put2_0) | (with_reducible apply put2_1) | (with_reducible apply put3_0) | (with_reducible apply put3_1) | (with_reducible apply put3_2) | (with_reducible apply put4_0) | (with_reducible apply put4_1) | (with_reducible apply put4_2) | (with_reducible apply put4_3) | (with_reducible apply put5_0) | (with_reducible apply put5_1) | (with_reducible apply put5_2) | (with_reducible apply put5_3) | (with_reducible apply put5_4) | (with_reducible apply put6_0) | (with_reducible apply put6_1) | (with_reducible apply put6_2) | (with_reducible apply put6_3) | (with_reducible apply put6_4) | (with_reducible apply put6_5) | (with_reducible refine blk_else (by omega) ?_) | (with_reducible refine blk_old ?_)))
        obtain ⟨Bz, hBz⟩ : ∃ x, x = w.heap.size + 1 := ⟨_, rfl⟩
        rw [← hBz] at Xz
        try rw [← hBz]
        have lez : w.heap.size ≤ Bz := by omega
        obtain ⟨Ba, hBa⟩ : ∃ x, x = w.heap.size := ⟨_, rfl⟩
        rw [← hBa] at Xa
        try rw [← hBa]
        have naz : ¬ Ba = Bz := by omega
        have nza : ¬ Bz = Ba := fun h => naz h.symm
        have lea : w.heap.size ≤ Ba := by omega
        clear hBa hBz
        clear hv0
        refine (CK.out _).mono ?_
        rintro e w1 ⟨rfl, bb⟩
        have Hz1 := Lib.hid (blk_call bb Xz)
        have Ha1 := Lib.hid (blk_call bb Xa)
        have HB1 := Lib.hid (bel_onto XB bb XB.size)
        clear Xz Xa XB bb
        obtain ⟨z0_, z1_, z2_, z3_, zf0_, zf1_, zf2_, zf3_⟩ := at4 Hz1.out
        have zn_ := ne_blk Hz1.out
        have zm_ := Ne.symm (a := Bz) zn_
        have zl_ := lt_blk Hz1.out
        obtain ⟨a0_, a1_, a2_, a3_, af0_, af1_, af2_, af3_⟩ := at4 Ha1.out
        have an_ := ne_blk Ha1.out
        have am_ := Ne.symm (a := Ba) an_
        have al_ := lt_blk Ha1.out
        go_wp2_with fail
        refine cl_gen ?_
        intro v1 hv1
        have Xz : v1.heap[Bz]? = some (.cells #[.int .i64 0, .int .i64 0, .int .i64 0, .int .i64 0] 123 (0, 0)) := by
          rw [hv1]
          (repeat' (first | (with_reducible exact Hz1.out) | (with_reducible exact Ha1.out) | (with_reducible exact heap_alloc_new _ _) | (with_reducible exact blk_new (by first | (simp; done) | omega)) | (with_reducible refine blk_drew ?_) | (with_reducible apply put1_0) | (with_reducible apply put2_0) | (with_reducible apply put2_1) | (with_reducible apply put3_0) | (with_reducible apply put3_1) | (with_reducible apply put3_2) | (with_reducible apply put4_0) | (with_reducible apply put4_1) | (with_reducible apply put4_2) | (with_reducible apply put4_3) | (with_reducible apply put5_0) | (with_reducible apply put5_1) | (with_reducible apply put5_2) | (with_reducible apply put5_3) | (with_reducible apply put5_4) | (with_reducible apply put6_0) | (with_reducible apply put6_1) | (with_reducible apply put6_2) | (with_reducible apply put6_3) | (with_reducible apply put6_4) | (with_reducible apply put6_5) | (with_reducible refine blk_else (by omega) ?_) | (with_reducible refine blk_old ?_)))
        have Xa : v1.heap[Ba]? = some (.cells #[.int .i64 i, .int .i64 s, .int .i64 h, .int .i64 v] 123 (0, 0)) := by
          rw [hv1]
          (repeat' (first | (with_reducible exact Hz1.out) | (with_reducible exact Ha1.out) | (with_reducible exact heap_alloc_new _ _) | (with_reducible exact blk_new (by first | (simp; done) | omega)) | (with_reducible refine blk_drew ?_) | (with_reducible apply put1_0) | (with_reducible apply put2_0) | (with_reducible apply put2_1) | (with_reducible apply put3_0) | (with_reducible apply put3_1) | (with_reducible apply put3_2) | (with_reducible apply put4_0) | (with_reducible apply put4_1) | (with_reducible apply put4_2) | (with_reducible apply put4_3) | (with_reducible apply put5_0) | (with_reducible apply put5_1) | (with_reducible apply put5_2) | (with_reducible apply put5_3) | (with_reducible apply put5_4) | (with_reducible apply put6_0) | (with_reducible apply put6_1) | (with_reducible apply put6_2) | (with_reducible apply put6_3) | (with_reducible apply put6_4) | (with_reducible apply put6_5) | (with_reducible refine blk_else (by omega) ?_) | (with_reducible refine blk_old ?_)))
        have XB : Below w.heap.size w v1 := by
          rw [hv1]
          (repeat' (first | (with_reducible exact HB1.out) | (with_reducible exact Below.refl _ _) | (with_reducible refine below_drewN _ ?_) | (with_reducible refine Below.drew ?_) | (with_reducible refine Below.setCell ?_ (by first | (simp; done) | omega) _) | (with_reducible refine Below.alloc ?_ (by have := HB1.out.size; simp; omega) _)))
        clear z0_ z1_ z2_ z3_ zf0_ zf1_ zf2_ zf3_ zn_ zm_ zl_ a0_ a1_ a2_ a3_ af0_ af1_ af2_ af3_ an_ am_ al_
        clear hv1 Hz1 Ha1 HB1
        refine (TT.out _).mono ?_
        rintro e w2 ⟨rfl, bb⟩
        have Hz2 := Lib.hid (blk_call bb Xz)
        have Ha2 := Lib.hid (blk_call bb Xa)
        have HB2 := Lib.hid (bel_onto XB bb XB.size)
        clear Xz Xa XB bb
        obtain ⟨z0_, z1_, z2_, z3_, zf0_, zf1_, zf2_, zf3_⟩ := at4 Hz2.out
        have zn_ := ne_blk Hz2.out
        have zm_ := Ne.symm (a := Bz) zn_
        have zl_ := lt_blk Hz2.out
        obtain ⟨a0_, a1_, a2_, a3_, af0_, af1_, af2_, af3_⟩ := at4 Ha2.out
        have an_ := ne_blk Ha2.out
        have am_ := Ne.symm (a := Ba) an_
        have al_ := lt_blk Ha2.out
        go_wp2
        (try simp only [Exit.inBlock, Exit.then])
        refine bp_gen ?_
        intro v2 hv2
        have Xz : v2.heap[Bz]? = some (.cells #[.int .i64 i, .int .i64 s, .int .i64 h, .int .i64 0] 123 (0, 0)) := by
          rw [hv2]
          (repeat' (first | (with_reducible exact Hz2.out) | (with_reducible exact heap_alloc_new _ _) | (with_reducible exact blk_new (by first | (simp; done) | omega)) | (with_reducible refine blk_drew ?_) | (with_reducible apply put1_0) | (with_reducible apply put2_0) | (with_reducible apply put2_1) | (with_reducible apply put3_0) | (with_reducible apply put3_1) | (with_reducible apply put3_2) | (with_reducible apply put4_0) | (with_reducible apply put4_1) | (with_reducible apply put4_2) | (with_reducible apply put4_3) | (with_reducible apply put5_0) | (with_reducible apply put5_1) | (with_reducible apply put5_2) | (with_reducible apply put5_3) | (with_reducible apply put5_4) | (with_reducible apply put6_0) | (with_reducible apply put6_1) | (with_reducible apply put6_2) | (with_reducible apply put6_3) | (with_reducible apply put6_4) | (with_reducible apply put6_5) | (with_reducible refine blk_else (by omega) ?_) | (with_reducible refine blk_old ?_)))
        have XB : Below w.heap.size w v2 := by
          rw [hv2]
          (repeat' (first | (with_reducible exact HB2.out) | (with_reducible exact Below.refl _ _) | (with_reducible refine below_drewN _ ?_) | (with_reducible refine Below.drew ?_) | (with_reducible refine Below.setCell ?_ (by first | (simp; done) | omega) _) | (with_reducible refine Below.alloc ?_ (by have := HB2.out.size; simp; omega) _)))
        clear z0_ z1_ z2_ z3_ zf0_ zf1_ zf2_ zf3_ zn_ zm_ zl_ a0_ a1_ a2_ a3_ af0_ af1_ af2_ af3_ an_ am_ al_
        clear hv2 Hz2 Ha2 HB2
        obtain ⟨z0_, z1_, z2_, z3_, -⟩ := at4 Xz
        refine bodyPost_ret (v := .agg #[.int .i64 i, .int .i64 s, .int .i64 h, .int .i64 0]) (by simp [results, Try.results59, go_sem, z0_, z1_, z2_, z3_]) rfl ⟨rfl, XB⟩
    · have hn : 0 < need i v M := by omega
      have n2 := n2 hn
      have k1 : i * x ≤ i * (need i v M - 1) := Int.mul_le_mul_of_nonneg_left (by omega) (by omega)
      have hx2 : x ≤ 1099515000000 := by
        have : 1 * x ≤ i * x := Int.mul_le_mul_of_nonneg_right i0 x0
        omega
      have hR : (CD.tick ⟨i, s, h, v⟩ x b) = ⟨i, s, h, v + i * x⟩ := by
        unfold CD.tick
        rw [if_pos hok]
        congr 1
        dsimp only
        cases b with
        | true => rw [if_pos rfl] at hM ⊢; omega
        | false =>
          rw [if_neg (by decide)] at hM ⊢
          split <;> omega
      rw [hR]
      have gx : decide (need i v M ≤ x) = false := decide_eq_false hx
      have ix2 : i * x ≤ 1099515000000 := by omega
      have w1_ : IntKind.i64.wrap x = x := by rw [IntKind.wrap_i64]; omega
      have w2_ : IntKind.i64.wrap (i * x) = i * x := by rw [IntKind.wrap_i64]; omega
      have w3_ : IntKind.i64.wrap (v + i * x) = v + i * x := by rw [IntKind.wrap_i64]; omega
      generalize need i v M = N at *
      obtain ⟨Q, hQ⟩ : ∃ Q, Q = i * x := ⟨_, rfl⟩
      rw [← hQ] at ix2 w2_ w3_ ⊢
      have hQ' := hQ.symm
      clear hQ
      simp only [cd_val]
      clear hR hok n1 n2 n3 hx k1 hn
      cases b with
      | true =>
        obtain rfl : M = h := hM
        go_enter Try.func59, Try.ntmps59
        go_wp2_with fail
        refine cl_gen ?_
        intro v0 hv0
        have XB : Below w.heap.size w v0 := by
          rw [hv0]
          (repeat' (first | (with_reducible exact Below.refl _ _) | (with_reducible assumption) | (with_reducible refine below_drewN _ ?_) | (with_reducible refine Below.drew ?_) | (with_reducible refine Below.setCell ?_ (by simp) _) | (with_reducible refine Below.alloc ?_ (by simp; try omega) _)))
        have Xa : v0.heap[w.heap.size]? = some (.cells #[.int .i64 i, .int .i64 s, .int .i64 M, .int .i64 v] 123 (0, 0)) := by
          rw [hv0]
          (repeat' (first | (with_reducible exact heap_alloc_new _ _) | (with_reducible exact blk_new (by first | (simp; done) | omega)) | (with_reducible refine blk_drew ?_) | (with_reducible apply put1_0) | (with_reducible apply put2_0) | (with_reducible apply put2_1) | (with_reducible apply put3_0) | (with_reducible apply put3_1) | (with_reducible apply put3_2) | (with_reducible apply put4_0) | (with_reducible apply put4_1) | (with_reducible apply put4_2) | (with_reducible apply put4_3) | (with_reducible apply put5_0) | (with_reducible apply put5_1) | (with_reducible apply put5_2) | (with_reducible apply put5_3) | (with_reducible apply put5_4) | (with_reducible apply put6_0) | (with_reducible apply put6_1) | (with_reducible apply put6_2) | (with_reducible apply put6_3) | (with_reducible apply put6_4) | (with_reducible apply put6_5) | (with_reducible refine blk_else (by omega) ?_) | (with_reducible refine blk_old ?_)))
        have Xz : v0.heap[w.heap.size + 1]? = some (.cells #[.int .i64 0, .int .i64 0, .int .i64 0, .int .i64 0] 123 (0, 0)) := by
          rw [hv0]
          (repeat' (first | (with_reducible exact heap_alloc_new _ _) | (with_reducible exact blk_new (by first | (simp; done) | omega)) | (with_reducible refine blk_drew ?_) | (with_reducible apply put1_0) | (with_reducible apply put2_0) | (with_reducible apply put2_1) | (with_reducible apply put3_0) | (with_reducible apply put3_1) | (with_reducible apply put3_2) | (with_reducible apply put4_0) | (with_reducible apply put4_1) | (with_reducible apply put4_2) | (with_reducible apply put4_3) | (with_reducible apply put5_0) | (with_reducible apply put5_1) | (with_reducible apply put5_2) | (with_reducible apply put5_3) | (with_reducible apply put5_4) | (with_reducible apply put6_0) | (with_reducible apply put6_1) | (with_reducible apply put6_2) | (with_reducible apply put6_3) | (with_reducible apply put6_4) | (with_reducible apply put6_5) | (with_reducible refine blk_else (by omega) ?_) | (with_reducible refine blk_old ?_)))
        obtain ⟨Bz, hBz⟩ : ∃ x, x = w.heap.size + 1 := ⟨_, rfl⟩
        rw [← hBz] at Xz
        try rw [← hBz]
        have lez : w.heap.size ≤ Bz := by omega
        obtain ⟨Ba, hBa⟩ : ∃ x, x = w.heap.size := ⟨_, rfl⟩
        rw [← hBa] at Xa
        try rw [← hBa]
        have naz : ¬ Ba = Bz := by omega
        have nza : ¬ Bz = Ba := fun h => naz h.symm
        have lea : w.heap.size ≤ Ba := by omega
        clear hBa hBz
        clear hv0
        refine (CK.out _).mono ?_
        rintro e w1 ⟨rfl, bb⟩
        have Hz1 := Lib.hid (blk_call bb Xz)
        have Ha1 := Lib.hid (blk_call bb Xa)
        have HB1 := Lib.hid (bel_onto XB bb XB.size)
        clear Xz Xa XB bb
        obtain ⟨z0_, z1_, z2_, z3_, zf0_, zf1_, zf2_, zf3_⟩ := at4 Hz1.out
        have zn_ := ne_blk Hz1.out
        have zm_ := Ne.symm (a := Bz) zn_
        have zl_ := lt_blk Hz1.out
        obtain ⟨a0_, a1_, a2_, a3_, af0_, af1_, af2_, af3_⟩ := at4 Ha1.out
        have an_ := ne_blk Ha1.out
        have am_ := Ne.symm (a := Ba) an_
        have al_ := lt_blk Ha1.out
        go_wp2_with fail
        refine cl_gen ?_
        intro v1 hv1
        have Xz : v1.heap[Bz]? = some (.cells #[.int .i64 0, .int .i64 0, .int .i64 0, .int .i64 0] 123 (0, 0)) := by
          rw [hv1]
          (repeat' (first | (with_reducible exact Hz1.out) | (with_reducible exact Ha1.out) | (with_reducible exact heap_alloc_new _ _) | (with_reducible exact blk_new (by first | (simp; done) | omega)) | (with_reducible refine blk_drew ?_) | (with_reducible apply put1_0) | (with_reducible apply put2_0) | (with_reducible apply put2_1) | (with_reducible apply put3_0) | (with_reducible apply put3_1) | (with_reducible apply put3_2) | (with_reducible apply put4_0) | (with_reducible apply put4_1) | (with_reducible apply put4_2) | (with_reducible apply put4_3) | (with_reducible apply put5_0) | (with_reducible apply put5_1) | (with_reducible apply put5_2) | (with_reducible apply put5_3) | (with_reducible apply put5_4) | (with_reducible apply put6_0) | (with_reducible apply put6_1) | (with_reducible apply put6_2) | (with_reducible apply put6_3) | (with_reducible apply put6_4) | (with_reducible apply put6_5) | (with_reducible refine blk_else (by omega) ?_) | (with_reducible refine blk_old ?_)))
        have Xa : v1.heap[Ba]? = some (.cells #[.int .i64 i, .int .i64 s, .int .i64 M, .int .i64 v] 123 (0, 0)) := by
          rw [hv1]
          (repeat' (first | (with_reducible exact Hz1.out) | (with_reducible exact Ha1.out) | (with_reducible exact heap_alloc_new _ _) | (with_reducible exact blk_new (by first | (simp; done) | omega)) | (with_reducible refine blk_drew ?_) | (with_reducible apply put1_0) | (with_reducible apply put2_0) | (with_reducible apply put2_1) | (with_reducible apply put3_0) | (with_reducible apply put3_1) | (with_reducible apply put3_2) | (with_reducible apply put4_0) | (with_reducible apply put4_1) | (with_reducible apply put4_2) | (with_reducible apply put4_3) | (with_reducible apply put5_0) | (with_reducible apply put5_1) | (with_reducible apply put5_2) | (with_reducible apply put5_3) | (with_reducible apply put5_4) | (with_reducible apply put6_0) | (with_reducible apply put6_1) | (with_reducible apply put6_2) | (with_reducible apply put6_3) | (with_reducible apply put6_4) | (with_reducible apply put6_5) | (with_reducible refine blk_else (by omega) ?_) | (with_reducible refine blk_old ?_)))
        have XB : Below w.heap.size w v1 := by
          rw [hv1]
          (repeat' (first | (with_reducible exact HB1.out) | (with_reducible exact Below.refl _ _) | (with_reducible refine below_drewN _ ?_) | (with_reducible refine Below.drew ?_) | (with_reducible refine Below.setCell ?_ (by first | (simp; done) | omega) _) | (with_reducible refine Below.alloc ?_ (by have := HB1.out.size; simp; omega) _)))
        clear z0_ z1_ z2_ z3_ zf0_ zf1_ zf2_ zf3_ zn_ zm_ zl_ a0_ a1_ a2_ a3_ af0_ af1_ af2_ af3_ an_ am_ al_
        clear hv1 Hz1 Ha1 HB1
        refine (TT.out _).mono ?_
        rintro e w2 ⟨rfl, bb⟩
        have Hz2 := Lib.hid (blk_call bb Xz)
        have Ha2 := Lib.hid (blk_call bb Xa)
        have HB2 := Lib.hid (bel_onto XB bb XB.size)
        clear Xz Xa XB bb
        obtain ⟨z0_, z1_, z2_, z3_, zf0_, zf1_, zf2_, zf3_⟩ := at4 Hz2.out
        have zn_ := ne_blk Hz2.out
        have zm_ := Ne.symm (a := Bz) zn_
        have zl_ := lt_blk Hz2.out
        obtain ⟨a0_, a1_, a2_, a3_, af0_, af1_, af2_, af3_⟩ := at4 Ha2.out
        have an_ := ne_blk Ha2.out
        have am_ := Ne.symm (a := Ba) an_
        have al_ := lt_blk Ha2.out
        go_wp2
        (try simp only [Exit.inBlock, Exit.then])
        refine bp_gen ?_
        intro v2 hv2
        have Xz : v2.heap[Bz]? = some (.cells #[.int .i64 i, .int .i64 s, .int .i64 M, .int .i64 (v + Q)] 123 (0, 0)) := by
          rw [hv2]
          (repeat' (first | (with_reducible exact Hz2.out) | (with_reducible exact heap_alloc_new _ _) | (with_reducible exact blk_new (by first | (simp; done) | omega)) | (with_reducible refine blk_drew ?_) | (with_reducible apply put1_0) | (with_reducible apply put2_0) | (with_reducible apply put2_1) | (with_reducible apply put3_0) | (with_reducible apply put3_1) | (with_reducible apply put3_2) | (with_reducible apply put4_0) | (with_reducible apply put4_1) | (with_reducible apply put4_2) | (with_reducible apply put4_3) | (with_reducible apply put5_0) | (with_reducible apply put5_1) | (with_reducible apply put5_2) | (with_reducible apply put5_3) | (with_reducible apply put5_4) | (with_reducible apply put6_0) | (with_reducible apply put6_1) | (with_reducible apply put6_2) | (with_reducible apply put6_3) | (with_reducible apply put6_4) | (with_reducible apply put6_5) | (with_reducible refine blk_else (by omega) ?_) | (with_reducible refine blk_old ?_)))
        have XB : Below w.heap.size w v2 := by
          rw [hv2]
          (repeat' (first | (with_reducible exact HB2.out) | (with_reducible exact Below.refl _ _) | (with_reducible refine below_drewN _ ?_) | (with_reducible refine Below.drew ?_) | (with_reducible refine Below.setCell ?_ (by first | (simp; done) | omega) _) | (with_reducible refine Below.alloc ?_ (by have := HB2.out.size; simp; omega) _)))
        clear z0_ z1_ z2_ z3_ zf0_ zf1_ zf2_ zf3_ zn_ zm_ zl_ a0_ a1_ a2_ a3_ af0_ af1_ af2_ af3_ an_ am_ al_
        clear hv2 Hz2 Ha2 HB2
        obtain ⟨z0_, z1_, z2_, z3_, -⟩ := at4 Xz
        refine bodyPost_ret (v := .agg #[.int .i64 i, .int .i64 s, .int .i64 M, .int .i64 (v + Q)]) (by simp [results, Try.results59, go_sem, z0_, z1_, z2_, z3_]) rfl ⟨rfl, XB⟩
      | false =>
        obtain rfl : M = 0 := hM
        go_enter Try.func59, Try.ntmps59
        go_wp2_with fail
        refine cl_gen ?_
        intro v0 hv0
        have XB : Below w.heap.size w v0 := by
          rw [hv0]
          (repeat' (first | (with_reducible exact Below.refl _ _) | (with_reducible assumption) | (with_reducible refine below_drewN _ ?_) | (with_reducible refine Below.drew ?_) | (with_reducible refine Below.setCell ?_ (by simp) _) | (with_reducible refine Below.alloc ?_ (by simp; try omega) _)))
        have Xa : v0.heap[w.heap.size]? = some (.cells #[.int .i64 i, .int .i64 s, .int .i64 h, .int .i64 v] 123 (0, 0)) := by
          rw [hv0]
          (repeat' (first | (with_reducible exact heap_alloc_new _ _) | (with_reducible exact blk_new (by first | (simp; done) | omega)) | (with_reducible refine blk_drew ?_) | (with_reducible apply put1_0) | (with_reducible apply put2_0) | (with_reducible apply put2_1) | (with_reducible apply put3_0) | (with_reducible apply put3_1) | (with_reducible apply put3_2) | (with_reducible apply put4_0) | (with_reducible apply put4_1) | (with_reducible apply put4_2) | (with_reducible apply put4_3) | (with_reducible apply put5_0) | (with_reducible apply put5_1) | (with_reducible apply put5_2) | (with_reducible apply put5_3) | (with_reducible apply put5_4) | (with_reducible apply put6_0) | (with_reducible apply put6_1) | (with_reducible apply put6_2) | (with_reducible apply put6_3) | (with_reducible apply put6_4) | (with_reducible apply put6_5) | (with_reducible refine blk_else (by omega) ?_) | (with_reducible refine blk_old ?_)))
        have Xz : v0.heap[w.heap.size + 1]? = some (.cells #[.int .i64 0, .int .i64 0, .int .i64 0, .int .i64 0] 123 (0, 0)) := by
          rw [hv0]
          (repeat' (first | (with_reducible exact heap_alloc_new _ _) | (with_reducible exact blk_new (by first | (simp; done) | omega)) | (with_reducible refine blk_drew ?_) | (with_reducible apply put1_0) | (with_reducible apply put2_0) | (with_reducible apply put2_1) | (with_reducible apply put3_0) | (with_reducible apply put3_1) | (with_reducible apply put3_2) | (with_reducible apply put4_0) | (with_reducible apply put4_1) | (with_reducible apply put4_2) | (with_reducible apply put4_3) | (with_reducible apply put5_0) | (with_reducible apply put5_1) | (with_reducible apply put5_2) | (with_reducible apply put5_3) | (with_reducible apply put5_4) | (with_reducible apply put6_0) | (with_reducible apply put6_1) | (with_reducible apply put6_2) | (with_reducible apply put6_3) | (with_reducible apply put6_4) | (with_reducible apply put6_5) | (with_reducible refine blk_else (by omega) ?_) | (with_reducible refine blk_old ?_)))
        obtain ⟨Bz, hBz⟩ : ∃ x, x = w.heap.size + 1 := ⟨_, rfl⟩
        rw [← hBz] at Xz
        try rw [← hBz]
        have lez : w.heap.size ≤ Bz := by omega
        obtain ⟨Ba, hBa⟩ : ∃ x, x = w.heap.size := ⟨_, rfl⟩
        rw [← hBa] at Xa
        try rw [← hBa]
        have naz : ¬ Ba = Bz := by omega
        have nza : ¬ Bz = Ba := fun h => naz h.symm
        have lea : w.heap.size ≤ Ba := by omega
        clear hBa hBz
        clear hv0
        refine (CK.out _).mono ?_
        rintro e w1 ⟨rfl, bb⟩
        have Hz1 := Lib.hid (blk_call bb Xz)
        have Ha1 := Lib.hid (blk_call bb Xa)
        have HB1 := Lib.hid (bel_onto XB bb XB.size)
        clear Xz Xa XB bb
        obtain ⟨z0_, z1_, z2_, z3_, zf0_, zf1_, zf2_, zf3_⟩ := at4 Hz1.out
        have zn_ := ne_blk Hz1.out
        have zm_ := Ne.symm (a := Bz) zn_
        have zl_ := lt_blk Hz1.out
        obtain ⟨a0_, a1_, a2_, a3_, af0_, af1_, af2_, af3_⟩ := at4 Ha1.out
        have an_ := ne_blk Ha1.out
        have am_ := Ne.symm (a := Ba) an_
        have al_ := lt_blk Ha1.out
        go_wp2_with fail
        refine cl_gen ?_
        intro v1 hv1
        have Xz : v1.heap[Bz]? = some (.cells #[.int .i64 0, .int .i64 0, .int .i64 0, .int .i64 0] 123 (0, 0)) := by
          rw [hv1]
          (repeat' (first | (with_reducible exact Hz1.out) | (with_reducible exact Ha1.out) | (with_reducible exact heap_alloc_new _ _) | (with_reducible exact blk_new (by first | (simp; done) | omega)) | (with_reducible refine blk_drew ?_) | (with_reducible apply put1_0) | (with_reducible apply put2_0) | (with_reducible apply put2_1) | (with_reducible apply put3_0) | (with_reducible apply put3_1) | (with_reducible apply put3_2) | (with_reducible apply put4_0) | (with_reducible apply put4_1) | (with_reducible apply put4_2) | (with_reducible apply put4_3) | (with_reducible apply put5_0) | (with_reducible apply put5_1) | (with_reducible apply put5_2) | (with_reducible apply put5_3) | (with_reducible apply put5_4) | (with_reducible apply put6_0) | (with_reducible apply put6_1) | (with_reducible apply put6_2) | (with_reducible apply put6_3) | (with_reducible apply put6_4) | (with_reducible apply put6_5) | (with_reducible refine blk_else (by omega) ?_) | (with_reducible refine blk_old ?_)))
        have Xa : v1.heap[Ba]? = some (.cells #[.int .i64 i, .int .i64 s, .int .i64 h, .int .i64 v] 123 (0, 0)) := by
          rw [hv1]
          (repeat' (first | (with_reducible exact Hz1.out) | (with_reducible exact Ha1.out) | (with_reducible exact heap_alloc_new _ _) | (with_reducible exact blk_new (by first | (simp; done) | omega)) | (with_reducible refine blk_drew ?_) | (with_reducible apply put1_0) | (with_reducible apply put2_0) | (with_reducible apply put2_1) | (with_reducible apply put3_0) | (with_reducible apply put3_1) | (with_reducible apply put3_2) | (with_reducible apply put4_0) | (with_reducible apply put4_1) | (with_reducible apply put4_2) | (with_reducible apply put4_3) | (with_reducible apply put5_0) | (with_reducible apply put5_1) | (with_reducible apply put5_2) | (with_reducible apply put5_3) | (with_reducible apply put5_4) | (with_reducible apply put6_0) | (with_reducible apply put6_1) | (with_reducible apply put6_2) | (with_reducible apply put6_3) | (with_reducible apply put6_4) | (with_reducible apply put6_5) | (with_reducible refine blk_else (by omega) ?_) | (with_reducible refine blk_old ?_)))
        have XB : Below w.heap.size w v1 := by
          rw [hv1]
          (repeat' (first | (with_reducible exact HB1.out) | (with_reducible exact Below.refl _ _) | (with_reducible refine below_drewN _ ?_) | (with_reducible refine Below.drew ?_) | (with_reducible refine Below.setCell ?_ (by first | (simp; done) | omega) _) | (with_reducible refine Below.alloc ?_ (by have := HB1.out.size; simp; omega) _)))
        clear z0_ z1_ z2_ z3_ zf0_ zf1_ zf2_ zf3_ zn_ zm_ zl_ a0_ a1_ a2_ a3_ af0_ af1_ af2_ af3_ an_ am_ al_
        clear hv1 Hz1 Ha1 HB1
        refine (TT.out _).mono ?_
        rintro e w2 ⟨rfl, bb⟩
        have Hz2 := Lib.hid (blk_call bb Xz)
        have Ha2 := Lib.hid (blk_call bb Xa)
        have HB2 := Lib.hid (bel_onto XB bb XB.size)
        clear Xz Xa XB bb
        obtain ⟨z0_, z1_, z2_, z3_, zf0_, zf1_, zf2_, zf3_⟩ := at4 Hz2.out
        have zn_ := ne_blk Hz2.out
        have zm_ := Ne.symm (a := Bz) zn_
        have zl_ := lt_blk Hz2.out
        obtain ⟨a0_, a1_, a2_, a3_, af0_, af1_, af2_, af3_⟩ := at4 Ha2.out
        have an_ := ne_blk Ha2.out
        have am_ := Ne.symm (a := Ba) an_
        have al_ := lt_blk Ha2.out
        go_wp2
        (try simp only [Exit.inBlock, Exit.then])
        refine bp_gen ?_
        intro v2 hv2
        have Xz : v2.heap[Bz]? = some (.cells #[.int .i64 i, .int .i64 s, .int .i64 h, .int .i64 (v + Q)] 123 (0, 0)) := by
          rw [hv2]
          (repeat' (first | (with_reducible exact Hz2.out) | (with_reducible exact heap_alloc_new _ _) | (with_reducible exact blk_new (by first | (simp; done) | omega)) | (with_reducible refine blk_drew ?_) | (with_reducible apply put1_0) | (with_reducible apply put2_0) | (with_reducible apply put2_1) | (with_reducible apply put3_0) | (with_reducible apply put3_1) | (with_reducible apply put3_2) | (with_reducible apply put4_0) | (with_reducible apply put4_1) | (with_reducible apply put4_2) | (with_reducible apply put4_3) | (with_reducible apply put5_0) | (with_reducible apply put5_1) | (with_reducible apply put5_2) | (with_reducible apply put5_3) | (with_reducible apply put5_4) | (with_reducible apply put6_0) | (with_reducible apply put6_1) | (with_reducible apply put6_2) | (with_reducible apply put6_3) | (with_reducible apply put6_4) | (with_reducible apply put6_5) | (with_reducible refine blk_else (by omega) ?_) | (with_reducible refine blk_old ?_)))
        have XB : Below w.heap.size w v2 := by
          rw [hv2]
          (repeat' (first | (with_reducible exact HB2.out) | (with_reducible exact Below.refl _ _) | (with_reducible refine below_drewN _ ?_) | (with_reducible refine Below.drew ?_) | (with_reducible refine Below.setCell ?_ (by first | (simp; done) | omega) _) | (with_reducible refine Below.alloc ?_ (by have := HB2.out.size; simp; omega) _)))
        clear z0_ z1_ z2_ z3_ zf0_ zf1_ zf2_ zf3_ zn_ zm_ zl_ a0_ a1_ a2_ a3_ af0_ af1_ af2_ af3_ an_ am_ al_
        clear hv2 Hz2 Ha2 HB2
        obtain ⟨z0_, z1_, z2_, z3_, -⟩ := at4 Xz
        refine bodyPost_ret (v := .agg #[.int .i64 i, .int .i64 s, .int .i64 h, .int .i64 (v + Q)]) (by simp [results, Try.results59, go_sem, z0_, z1_, z2_, z3_]) rfl ⟨rfl, XB⟩
  · have k6 : cre i s h v = 6 := if_neg hok
    rw [k6] at CK
    rw [show CD.tick ⟨i, s, h, v⟩ x b = ⟨0, 0, 0, 0⟩ from if_neg hok]
    simp only [cd_val]
    clear hok k6
    go_enter Try.func59, Try.ntmps59
    go_wp2_with fail
    refine cl_gen ?_
    intro v0 hv0
    have XB : Below w.heap.size w v0 := by
      rw [hv0]
      (repeat' (first | (with_reducible exact Below.refl _ _) | (with_reducible assumption) | (with_reducible refine below_drewN _ ?_) | (with_reducible refine Below.drew ?_) | (with_reducible refine Below.setCell ?_ (by simp) _) | (with_reducible refine Below.alloc ?_ (by simp; try omega) _)))
    have Xa : v0.heap[w.heap.size]? = some (.cells #[.int .i64 i, .int .i64 s, .int .i64 h, .int .i64 v] 123 (0, 0)) := by
      rw [hv0]
      (repeat' (first | (with_reducible exact heap_alloc_new _ _) | (with_reducible exact blk_new (by first | (simp; done) | omega)) | (with_reducible refine blk_drew ?_) | (with_reducible apply put1_0) | (with_reducible apply put2_0) | (with_reducible apply put2_1) | (with_reducible apply put3_0) | (with_reducible apply put3_1) | (with_reducible apply put3_2) | (with_reducible apply put4_0) | (with_reducible apply put4_1) | (with_reducible apply put4_2) | (with_reducible apply put4_3) | (with_reducible apply put5_0) | (with_reducible apply put5_1) | (with_reducible apply put5_2) | (with_reducible apply put5_3) | (with_reducible apply put5_4) | (with_reducible apply put6_0) | (with_reducible apply put6_1) | (with_reducible apply put6_2) | (with_reducible apply put6_3) | (with_reducible apply put6_4) | (with_reducible apply put6_5) | (with_reducible refine blk_else (by omega) ?_) | (with_reducible refine blk_old ?_)))
    have Xz : v0.heap[w.heap.size + 1]? = some (.cells #[.int .i64 0, .int .i64 0, .int .i64 0, .int .i64 0] 123 (0, 0)) := by
      rw [hv0]
      (repeat' (first | (with_reducible exact heap_alloc_new _ _) | (with_reducible exact blk_new (by first | (simp; done) | omega)) | (with_reducible refine blk_drew ?_) | (with_reducible apply put1_0) | (with_reducible apply put2_0) | (with_reducible apply put2_1) | (with_reducible apply put3_0) | (with_reducible apply put3_1) | (with_reducible apply put3_2) | (with_reducible apply put4_0) | (with_reducible apply put4_1) | (with_reducible apply put4_2) | (with_reducible apply put4_3) | (with_reducible apply put5_0) | (with_reducible apply put5_1) | (with_reducible apply put5_2) | (with_reducible apply put5_3) | (with_reducible apply put5_4) | (with_reducible apply put6_0) | (with_reducible apply put6_1) | (with_reducible apply put6_2) | (with_reducible apply put6_3) | (with_reducible apply put6_4) | (with_reducible apply put6_5) | (with_reducible refine blk_else (by omega) ?_) | (with_reducible refine blk_old ?_)))
    obtain ⟨Bz, hBz⟩ : ∃ x, x = w.heap.size + 1 := ⟨_, rfl⟩
    rw [← hBz] at Xz
    try rw [← hBz]
    have lez : w.heap.size ≤ Bz := by omega
    obtain ⟨Ba, hBa⟩ : ∃ x, x = w.heap.size := ⟨_, rfl⟩
    rw [← hBa] at Xa
    try rw [← hBa]
    have naz : ¬ Ba = Bz := by omega
    have nza : ¬ Bz = Ba := fun h => naz h.symm
    have lea : w.heap.size ≤ Ba := by omega
    clear hBa hBz
    clear hv0
    refine (CK.out _).mono ?_
    rintro e w1 ⟨rfl, bb⟩
    have Hz1 := Lib.hid (blk_call bb Xz)
    have Ha1 := Lib.hid (blk_call bb Xa)
    have HB1 := Lib.hid (bel_onto XB bb XB.size)
    clear Xz Xa XB bb
    obtain ⟨z0_, z1_, z2_, z3_, zf0_, zf1_, zf2_, zf3_⟩ := at4 Hz1.out
    have zn_ := ne_blk Hz1.out
    have zm_ := Ne.symm (a := Bz) zn_
    have zl_ := lt_blk Hz1.out
    obtain ⟨a0_, a1_, a2_, a3_, af0_, af1_, af2_, af3_⟩ := at4 Ha1.out
    have an_ := ne_blk Ha1.out
    have am_ := Ne.symm (a := Ba) an_
    have al_ := lt_blk Ha1.out
    go_wp2
    (try simp only [Exit.inBlock, Exit.then])
    refine bp_gen ?_
    intro v1 hv1
    have Xz : v1.heap[Bz]? = some (.cells #[.int .i64 0, .int .i64 0, .int .i64 0, .int .i64 0] 123 (0, 0)) := by
      rw [hv1]
      (repeat' (first | (with_reducible exact Hz1.out) | (with_reducible exact heap_alloc_new _ _) | (with_reducible exact blk_new (by first | (simp; done) | omega)) | (with_reducible refine blk_drew ?_) | (with_reducible apply put1_0) | (with_reducible apply put2_0) | (with_reducible apply put2_1) | (with_reducible apply put3_0) | (with_reducible apply put3_1) | (with_reducible apply put3_2) | (with_reducible apply put4_0) | (with_reducible apply put4_1) | (with_reducible apply put4_2) | (with_reducible apply put4_3) | (with_reducible apply put5_0) | (with_reducible apply put5_1) | (with_reducible apply put5_2) | (with_reducible apply put5_3) | (with_reducible apply put5_4) | (with_reducible apply put6_0) | (with_reducible apply put6_1) | (with_reducible apply put6_2) | (with_reducible apply put6_3) | (with_reducible apply put6_4) | (with_reducible apply put6_5) | (with_reducible refine blk_else (by omega) ?_) | (with_reducible refine blk_old ?_)))
    have XB : Below w.heap.size w v1 := by
      rw [hv1]
      (repeat' (first | (with_reducible exact HB1.out) | (with_reducible exact Below.refl _ _) | (with_reducible refine below_drewN _ ?_) | (with_reducible refine Below.drew ?_) | (with_reducible refine Below.setCell ?_ (by first | (simp; done) | omega) _) | (with_reducible refine Below.alloc ?_ (by have := HB1.out.size; simp; omega) _)))
    clear z0_ z1_ z2_ z3_ zf0_ zf1_ zf2_ zf3_ zn_ zm_ zl_ a0_ a1_ a2_ a3_ af0_ af1_ af2_ af3_ an_ am_ al_
    clear hv1 Hz1 Ha1 HB1
    obtain ⟨z0_, z1_, z2_, z3_, -⟩ := at4 Xz
    refine bodyPost_ret (v := .agg #[.int .i64 0, .int .i64 0, .int .i64 0, .int .i64 0]) (by simp [results, Try.results59, go_sem, z0_, z1_, z2_, z3_]) rfl ⟨rfl, XB⟩
end Go.Proofs.Ytcieggckmpabnaa
