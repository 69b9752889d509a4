/-
  The law on all that a bucket tells: true for any bucket, ticks and tokens. No condition.
-/
import Derived.Test.YtgmdhanbeafagaaBk6
namespace Go.Proofs.Ytgmdhanbeafagaa
set_option linter.unusedVariables false
set_option linter.unusedSimpArgs false
open Go.ChangeShapes Go.WideShapes Go.ChangeAt Go.RowKit
attribute [local go_sem] alloc_drewN setCell_drewN

set_option maxRecDepth 100000 in
set_option maxHeartbeats 4000000 in
theorem walk_bucketTells (r : Int) (r0 : 0 ≤ r) (r1 : r ≤ 18446744073709551615) (b : Int) (b0 : 0 ≤ b) (b1 : b ≤ 18446744073709551615) (t : Int) (t0 : 0 ≤ t) (t1 : t ≤ 18446744073709551615) (x : Int) (x0 : 0 ≤ x) (x1 : x ≤ 18446744073709551615) (n : Int) (n0 : 0 ≤ n) (n1 : n ≤ 18446744073709551615) (w : World) :
    Calls Try.prog 3 #[.agg #[.int .u64 r, .int .u64 b, .int .u64 t], .int .u64 x, .int .u64 n] w fun e w' => e = .returned (.bool true) ∧ Below w.heap.size w w' := by
  have hs : BK.wd ⟨r, b, t⟩ := ⟨⟨r0, r1⟩, ⟨b0, b1⟩, t0, t1⟩
  have TK := Lib.hid (fun W => bk_take ⟨r, b, t⟩ hs n n0 n1 W)
  have RT := Lib.hid (fun W => bk_rtake ⟨r, b, t⟩ hs n n0 n1 W)
  have WT := Lib.hid (fun W => bk_wait ⟨r, b, t⟩ hs n n0 n1 W)
  have RW := Lib.hid (fun W => bk_rwait ⟨r, b, t⟩ hs n n0 n1 W)
  have NW := Lib.hid (fun W => bk_new r b W)
  have CF := Lib.hid (fun W => (bk_rcheck r b 0 W).mono (fun e w' h => (⟨h.1, h.2 ▸ (Below.refl _ W).alloc (Nat.le_refl _) _⟩ : _ ∧ Below W.heap.size W w')))
  have CK := Lib.hid (fun W => (bk_check r b t W).mono (fun e w' h => (⟨h.1, h.2 ▸ (Below.refl _ W).alloc (Nat.le_refl _) _⟩ : _ ∧ Below W.heap.size W w')))
  have RC := Lib.hid (fun W => (bk_rcheck r b t W).mono (fun e w' h => (⟨h.1, h.2 ▸ (Below.refl _ W).alloc (Nat.le_refl _) _⟩ : _ ∧ Below W.heap.size W w')))
  have TI := Lib.hid (fun W => bk_tick ⟨r, b, t⟩ hs x x0 x1 W)
  have RI := Lib.hid (fun W => bk_rtick ⟨r, b, t⟩ hs x x0 x1 W)
  have LV := Lib.hid (fun W => lives20 W)
  have hm : Try.prog.eqGuardType Try.prog.depth 25 = false := by kernel_rfl
  have hm2 : Try.prog.eqGuardType Try.prog.depth 24 = false := by kernel_rfl
  rw [show bck r b 0 = bck r b b from by unfold bck; split <;> (try rfl); split <;> split <;> (first | rfl | omega)] at CF
  generalize bck r b t = c at *
  generalize BK.take ⟨r, b, t⟩ n = d at *
  generalize BK.wait ⟨r, b, t⟩ n = v at *
  generalize BK.tick ⟨r, b, t⟩ x = y at *
  obtain ⟨⟨dr, db, dt⟩, di⟩ := d
  obtain ⟨vw_, vi⟩ := v
  obtain ⟨yr, yb, yt⟩ := y
  simp only [vw] at TK RT WT RW TI RI
  generalize bck r b b = f at *
  clear hs
  by_cases hf : f = 0
  · subst hf
    rw [if_pos rfl] at NW
    go_enter Try.func3, Try.ntmps3
    go_wp2_with fail
    refine cl_gen ?_
    intro v0 hv0
    have XB : Below w.heap.size w v0 := by
      rw [hv0]
      (repeat' (first | exact Below.refl _ _ | (with_reducible assumption) | refine below_drewN _ ?_ | refine Below.drew ?_ | refine Below.setCell ?_ (by simp) _ | refine Below.alloc ?_ (by simp; try omega) _))
    have Xa : v0.heap[w.heap.size]? = some (.cells #[.int .u64 r, .int .u64 b, .int .u64 t] 24 (0, 0)) := by
      rw [hv0]
      (repeat' (first | (with_reducible exact heap_alloc_new _ _) | (with_reducible exact blk_new (by first | (simp; done) | omega)) | (with_reducible refine blk_drew ?_) | (with_reducible apply put1_0) | (with_reducible apply put2_0) | (with_reducible apply put2_1) | (with_reducible apply put3_0) | (with_reducible apply put3_1) | (with_reducible apply put3_2) | (with_reducible apply put4_0) | (with_reducible apply put4_1) | (with_reducible apply put4_2) | (with_reducible apply put4_3) | (with_reducible apply put5_0) | (with_reducible apply put5_1) | (with_reducible apply put5_2) | (with_reducible apply put5_3) | (with_reducible apply put5_4) | (with_reducible apply put6_0) | (with_reducible apply put6_1) | (with_reducible apply put6_2) | (with_reducible apply put6_3) | (with_reducible apply put6_4) | (with_reducible apply put6_5) | (with_reducible refine blk_else (by omega) ?_) | (with_reducible refine blk_old ?_)))
    have Xc : v0.heap[w.heap.size + 1]? = some (.cells #[.int .u64 r, .int .u64 b, .int .u64 t] 25 (0, 0)) := by
      rw [hv0]
      (repeat' (first | (with_reducible exact heap_alloc_new _ _) | (with_reducible exact blk_new (by first | (simp; done) | omega)) | (with_reducible refine blk_drew ?_) | (with_reducible apply put1_0) | (with_reducible apply put2_0) | (with_reducible apply put2_1) | (with_reducible apply put3_0) | (with_reducible apply put3_1) | (with_reducible apply put3_2) | (with_reducible apply put4_0) | (with_reducible apply put4_1) | (with_reducible apply put4_2) | (with_reducible apply put4_3) | (with_reducible apply put5_0) | (with_reducible apply put5_1) | (with_reducible apply put5_2) | (with_reducible apply put5_3) | (with_reducible apply put5_4) | (with_reducible apply put6_0) | (with_reducible apply put6_1) | (with_reducible apply put6_2) | (with_reducible apply put6_3) | (with_reducible apply put6_4) | (with_reducible apply put6_5) | (with_reducible refine blk_else (by omega) ?_) | (with_reducible refine blk_old ?_)))
    obtain ⟨Bc, hBc⟩ : ∃ x, x = w.heap.size + 1 := ⟨_, rfl⟩
    rw [← hBc] at Xc
    try rw [← hBc]
    have lec : w.heap.size ≤ Bc := by omega
    obtain ⟨Ba, hBa⟩ : ∃ x, x = w.heap.size := ⟨_, rfl⟩
    rw [← hBa] at Xa
    try rw [← hBa]
    have nac : ¬ Ba = Bc := by omega
    have nca : ¬ Bc = Ba := fun h => nac h.symm
    have lea : w.heap.size ≤ Ba := by omega
    clear hBa hBc
    clear hv0
    refine (TK.out _).mono ?_
    rintro e w1 ⟨rfl, bb⟩
    have Hc1 := Lib.hid (blk_call bb Xc)
    have Ha1 := Lib.hid (blk_call bb Xa)
    have HB1 := Lib.hid (bel_onto XB bb XB.size)
    clear Xc Xa XB bb
    obtain ⟨c0_, c1_, c2_, cf0_, cf1_, cf2_⟩ := at3 Hc1.out
    have cn_ := ne_blk Hc1.out
    have cm_ := Ne.symm (a := Bc) cn_
    have cl_ := lt_blk Hc1.out
    obtain ⟨a0_, a1_, a2_, af0_, af1_, af2_⟩ := at3 Ha1.out
    have an_ := ne_blk Ha1.out
    have am_ := Ne.symm (a := Ba) an_
    have al_ := lt_blk Ha1.out
    go_wp2_with fail
    refine cl_gen ?_
    intro v1 hv1
    have Xc : v1.heap[Bc]? = some (.cells #[.int .u64 r, .int .u64 b, .int .u64 t] 25 (0, 0)) := by
      rw [hv1]
      (repeat' (first | (with_reducible exact Hc1.out) | (with_reducible exact Ha1.out) | (with_reducible exact heap_alloc_new _ _) | (with_reducible exact blk_new (by first | (simp; done) | omega)) | (with_reducible refine blk_drew ?_) | (with_reducible apply put1_0) | (with_reducible apply put2_0) | (with_reducible apply put2_1) | (with_reducible apply put3_0) | (with_reducible apply put3_1) | (with_reducible apply put3_2) | (with_reducible apply put4_0) | (with_reducible apply put4_1) | (with_reducible apply put4_2) | (with_reducible apply put4_3) | (with_reducible apply put5_0) | (with_reducible apply put5_1) | (with_reducible apply put5_2) | (with_reducible apply put5_3) | (with_reducible apply put5_4) | (with_reducible apply put6_0) | (with_reducible apply put6_1) | (with_reducible apply put6_2) | (with_reducible apply put6_3) | (with_reducible apply put6_4) | (with_reducible apply put6_5) | (with_reducible refine blk_else (by omega) ?_) | (with_reducible refine blk_old ?_)))
    have Xa : v1.heap[Ba]? = some (.cells #[.int .u64 r, .int .u64 b, .int .u64 t] 24 (0, 0)) := by
      rw [hv1]
      (repeat' (first | (with_reducible exact Hc1.out) | (with_reducible exact Ha1.out) | (with_reducible exact heap_alloc_new _ _) | (with_reducible exact blk_new (by first | (simp; done) | omega)) | (with_reducible refine blk_drew ?_) | (with_reducible apply put1_0) | (with_reducible apply put2_0) | (with_reducible apply put2_1) | (with_reducible apply put3_0) | (with_reducible apply put3_1) | (with_reducible apply put3_2) | (with_reducible apply put4_0) | (with_reducible apply put4_1) | (with_reducible apply put4_2) | (with_reducible apply put4_3) | (with_reducible apply put5_0) | (with_reducible apply put5_1) | (with_reducible apply put5_2) | (with_reducible apply put5_3) | (with_reducible apply put5_4) | (with_reducible apply put6_0) | (with_reducible apply put6_1) | (with_reducible apply put6_2) | (with_reducible apply put6_3) | (with_reducible apply put6_4) | (with_reducible apply put6_5) | (with_reducible refine blk_else (by omega) ?_) | (with_reducible refine blk_old ?_)))
    have XB : Below w.heap.size w v1 := by
      rw [hv1]
      (repeat' (first | (with_reducible exact HB1.out) | exact Below.refl _ _ | refine below_drewN _ ?_ | refine Below.drew ?_ | refine Below.setCell ?_ (by first | (simp; done) | omega) _ | refine Below.alloc ?_ (by have := HB1.out.size; simp; omega) _))
    have Xd : v1.heap[w1.heap.size]? = some (.cells #[.int .u64 dr, .int .u64 db, .int .u64 dt] 25 (0, 0)) := by
      rw [hv1]
      (repeat' (first | (with_reducible exact Hc1.out) | (with_reducible exact Ha1.out) | (with_reducible exact heap_alloc_new _ _) | (with_reducible exact blk_new (by first | (simp; done) | omega)) | (with_reducible refine blk_drew ?_) | (with_reducible apply put1_0) | (with_reducible apply put2_0) | (with_reducible apply put2_1) | (with_reducible apply put3_0) | (with_reducible apply put3_1) | (with_reducible apply put3_2) | (with_reducible apply put4_0) | (with_reducible apply put4_1) | (with_reducible apply put4_2) | (with_reducible apply put4_3) | (with_reducible apply put5_0) | (with_reducible apply put5_1) | (with_reducible apply put5_2) | (with_reducible apply put5_3) | (with_reducible apply put5_4) | (with_reducible apply put6_0) | (with_reducible apply put6_1) | (with_reducible apply put6_2) | (with_reducible apply put6_3) | (with_reducible apply put6_4) | (with_reducible apply put6_5) | (with_reducible refine blk_else (by omega) ?_) | (with_reducible refine blk_old ?_)))
    obtain ⟨Bd, hBd⟩ : ∃ x, x = w1.heap.size := ⟨_, rfl⟩
    rw [← hBd] at Xd
    try rw [← hBd]
    have ndc : ¬ Bd = Bc := by have := lt_blk Hc1.out; omega
    have ncd : ¬ Bc = Bd := fun h => ndc h.symm
    have nda : ¬ Bd = Ba := by have := lt_blk Ha1.out; omega
    have nad : ¬ Ba = Bd := fun h => nda h.symm
    have led : w.heap.size ≤ Bd := by have := HB1.out.size; omega
    clear hBd
    clear c0_ c1_ c2_ cf0_ cf1_ cf2_ cn_ cm_ cl_ a0_ a1_ a2_ af0_ af1_ af2_ an_ am_ al_
    clear hv1 Hc1 Ha1 HB1
    refine (RT.out _).mono ?_
    rintro e w2 ⟨rfl, bb⟩
    have Hc2 := Lib.hid (blk_call bb Xc)
    have Ha2 := Lib.hid (blk_call bb Xa)
    have Hd2 := Lib.hid (blk_call bb Xd)
    have HB2 := Lib.hid (bel_onto XB bb XB.size)
    clear Xc Xa Xd XB bb
    obtain ⟨c0_, c1_, c2_, cf0_, cf1_, cf2_⟩ := at3 Hc2.out
    have cn_ := ne_blk Hc2.out
    have cm_ := Ne.symm (a := Bc) cn_
    have cl_ := lt_blk Hc2.out
    obtain ⟨a0_, a1_, a2_, af0_, af1_, af2_⟩ := at3 Ha2.out
    have an_ := ne_blk Ha2.out
    have am_ := Ne.symm (a := Ba) an_
    have al_ := lt_blk Ha2.out
    obtain ⟨d0_, d1_, d2_, df0_, df1_, df2_⟩ := at3 Hd2.out
    have dn_ := ne_blk Hd2.out
    have dm_ := Ne.symm (a := Bd) dn_
    have dl_ := lt_blk Hd2.out
    go_wp2_with fail
    refine cl_gen ?_
    intro v2 hv2
    have Xc : v2.heap[Bc]? = some (.cells #[.int .u64 r, .int .u64 b, .int .u64 t] 25 (0, 0)) := by
      rw [hv2]
      (repeat' (first | (with_reducible exact Hc2.out) | (with_reducible exact Ha2.out) | (with_reducible exact Hd2.out) | (with_reducible exact heap_alloc_new _ _) | (with_reducible exact blk_new (by first | (simp; done) | omega)) | (with_reducible refine blk_drew ?_) | (with_reducible apply put1_0) | (with_reducible apply put2_0) | (with_reducible apply put2_1) | (with_reducible apply put3_0) | (with_reducible apply put3_1) | (with_reducible apply put3_2) | (with_reducible apply put4_0) | (with_reducible apply put4_1) | (with_reducible apply put4_2) | (with_reducible apply put4_3) | (with_reducible apply put5_0) | (with_reducible apply put5_1) | (with_reducible apply put5_2) | (with_reducible apply put5_3) | (with_reducible apply put5_4) | (with_reducible apply put6_0) | (with_reducible apply put6_1) | (with_reducible apply put6_2) | (with_reducible apply put6_3) | (with_reducible apply put6_4) | (with_reducible apply put6_5) | (with_reducible refine blk_else (by omega) ?_) | (with_reducible refine blk_old ?_)))
    have Xa : v2.heap[Ba]? = some (.cells #[.int .u64 r, .int .u64 b, .int .u64 t] 24 (0, 0)) := by
      rw [hv2]
      (repeat' (first | (with_reducible exact Hc2.out) | (with_reducible exact Ha2.out) | (with_reducible exact Hd2.out) | (with_reducible exact heap_alloc_new _ _) | (with_reducible exact blk_new (by first | (simp; done) | omega)) | (with_reducible refine blk_drew ?_) | (with_reducible apply put1_0) | (with_reducible apply put2_0) | (with_reducible apply put2_1) | (with_reducible apply put3_0) | (with_reducible apply put3_1) | (with_reducible apply put3_2) | (with_reducible apply put4_0) | (with_reducible apply put4_1) | (with_reducible apply put4_2) | (with_reducible apply put4_3) | (with_reducible apply put5_0) | (with_reducible apply put5_1) | (with_reducible apply put5_2) | (with_reducible apply put5_3) | (with_reducible apply put5_4) | (with_reducible apply put6_0) | (with_reducible apply put6_1) | (with_reducible apply put6_2) | (with_reducible apply put6_3) | (with_reducible apply put6_4) | (with_reducible apply put6_5) | (with_reducible refine blk_else (by omega) ?_) | (with_reducible refine blk_old ?_)))
    have Xd : v2.heap[Bd]? = some (.cells #[.int .u64 dr, .int .u64 db, .int .u64 dt] 25 (0, 0)) := by
      rw [hv2]
      (repeat' (first | (with_reducible exact Hc2.out) | (with_reducible exact Ha2.out) | (with_reducible exact Hd2.out) | (with_reducible exact heap_alloc_new _ _) | (with_reducible exact blk_new (by first | (simp; done) | omega)) | (with_reducible refine blk_drew ?_) | (with_reducible apply put1_0) | (with_reducible apply put2_0) | (with_reducible apply put2_1) | (with_reducible apply put3_0) | (with_reducible apply put3_1) | (with_reducible apply put3_2) | (with_reducible apply put4_0) | (with_reducible apply put4_1) | (with_reducible apply put4_2) | (with_reducible apply put4_3) | (with_reducible apply put5_0) | (with_reducible apply put5_1) | (with_reducible apply put5_2) | (with_reducible apply put5_3) | (with_reducible apply put5_4) | (with_reducible apply put6_0) | (with_reducible apply put6_1) | (with_reducible apply put6_2) | (with_reducible apply put6_3) | (with_reducible apply put6_4) | (with_reducible apply put6_5) | (with_reducible refine blk_else (by omega) ?_) | (with_reducible refine blk_old ?_)))
    have XB : Below w.heap.size w v2 := by
      rw [hv2]
      (repeat' (first | (with_reducible exact HB2.out) | exact Below.refl _ _ | refine below_drewN _ ?_ | refine Below.drew ?_ | refine Below.setCell ?_ (by first | (simp; done) | omega) _ | refine Below.alloc ?_ (by have := HB2.out.size; simp; omega) _))
    have Xe : v2.heap[w2.heap.size]? = some (.cells #[.int .u64 dr, .int .u64 db, .int .u64 dt] 24 (0, 0)) := by
      rw [hv2]
      (repeat' (first | (with_reducible exact Hc2.out) | (with_reducible exact Ha2.out) | (with_reducible exact Hd2.out) | (with_reducible exact heap_alloc_new _ _) | (with_reducible exact blk_new (by first | (simp; done) | omega)) | (with_reducible refine blk_drew ?_) | (with_reducible apply put1_0) | (with_reducible apply put2_0) | (with_reducible apply put2_1) | (with_reducible apply put3_0) | (with_reducible apply put3_1) | (with_reducible apply put3_2) | (with_reducible apply put4_0) | (with_reducible apply put4_1) | (with_reducible apply put4_2) | (with_reducible apply put4_3) | (with_reducible apply put5_0) | (with_reducible apply put5_1) | (with_reducible apply put5_2) | (with_reducible apply put5_3) | (with_reducible apply put5_4) | (with_reducible apply put6_0) | (with_reducible apply put6_1) | (with_reducible apply put6_2) | (with_reducible apply put6_3) | (with_reducible apply put6_4) | (with_reducible apply put6_5) | (with_reducible refine blk_else (by omega) ?_) | (with_reducible refine blk_old ?_)))
    obtain ⟨Be, hBe⟩ : ∃ x, x = w2.heap.size := ⟨_, rfl⟩
    rw [← hBe] at Xe
    try rw [← hBe]
    have nec : ¬ Be = Bc := by have := lt_blk Hc2.out; omega
    have nce : ¬ Bc = Be := fun h => nec h.symm
    have nea : ¬ Be = Ba := by have := lt_blk Ha2.out; omega
    have nae : ¬ Ba = Be := fun h => nea h.symm
    have ned : ¬ Be = Bd := by have := lt_blk Hd2.out; omega
    have nde : ¬ Bd = Be := fun h => ned h.symm
    have lee : w.heap.size ≤ Be := by have := HB2.out.size; omega
    clear hBe
    clear c0_ c1_ c2_ cf0_ cf1_ cf2_ cn_ cm_ cl_ a0_ a1_ a2_ af0_ af1_ af2_ an_ am_ al_ d0_ d1_ d2_ df0_ df1_ df2_ dn_ dm_ dl_
    clear hv2 Hc2 Ha2 Hd2 HB2
    refine (WT.out _).mono ?_
    rintro e w3 ⟨rfl, bb⟩
    have Hc3 := Lib.hid (blk_call bb Xc)
    have Ha3 := Lib.hid (blk_call bb Xa)
    have Hd3 := Lib.hid (blk_call bb Xd)
    have He3 := Lib.hid (blk_call bb Xe)
    have HB3 := Lib.hid (bel_onto XB bb XB.size)
    clear Xc Xa Xd Xe XB bb
    obtain ⟨c0_, c1_, c2_, cf0_, cf1_, cf2_⟩ := at3 Hc3.out
    have cn_ := ne_blk Hc3.out
    have cm_ := Ne.symm (a := Bc) cn_
    have cl_ := lt_blk Hc3.out
    obtain ⟨a0_, a1_, a2_, af0_, af1_, af2_⟩ := at3 Ha3.out
    have an_ := ne_blk Ha3.out
    have am_ := Ne.symm (a := Ba) an_
    have al_ := lt_blk Ha3.out
    obtain ⟨d0_, d1_, d2_, df0_, df1_, df2_⟩ := at3 Hd3.out
    have dn_ := ne_blk Hd3.out
    have dm_ := Ne.symm (a := Bd) dn_
    have dl_ := lt_blk Hd3.out
    obtain ⟨e0_, e1_, e2_, ef0_, ef1_, ef2_⟩ := at3 He3.out
    have en_ := ne_blk He3.out
    have em_ := Ne.symm (a := Be) en_
    have el_ := lt_blk He3.out
    go_wp2_with fail
    refine cl_gen ?_
    intro v3 hv3
    have Xc : v3.heap[Bc]? = some (.cells #[.int .u64 r, .int .u64 b, .int .u64 t] 25 (0, 0)) := by
      rw [hv3]
      (repeat' (first | (with_reducible exact Hc3.out) | (with_reducible exact Ha3.out) | (with_reducible exact Hd3.out) | (with_reducible exact He3.out) | (with_reducible exact heap_alloc_new _ _) | (with_reducible exact blk_new (by first | (simp; done) | omega)) | (with_reducible refine blk_drew ?_) | (with_reducible apply put1_0) | (with_reducible apply put2_0) | (with_reducible apply put2_1) | (with_reducible apply put3_0) | (with_reducible apply put3_1) | (with_reducible apply put3_2) | (with_reducible apply put4_0) | (with_reducible apply put4_1) | (with_reducible apply put4_2) | (with_reducible apply put4_3) | (with_reducible apply put5_0) | (with_reducible apply put5_1) | (with_reducible apply put5_2) | (with_reducible apply put5_3) | (with_reducible apply put5_4) | (with_reducible apply put6_0) | (with_reducible apply put6_1) | (with_reducible apply put6_2) | (with_reducible apply put6_3) | (with_reducible apply put6_4) | (with_reducible apply put6_5) | (with_reducible refine blk_else (by omega) ?_) | (with_reducible refine blk_old ?_)))
    have Xa : v3.heap[Ba]? = some (.cells #[.int .u64 r, .int .u64 b, .int .u64 t] 24 (0, 0)) := by
      rw [hv3]
      (repeat' (first | (with_reducible exact Hc3.out) | (with_reducible exact Ha3.out) | (with_reducible exact Hd3.out) | (with_reducible exact He3.out) | (with_reducible exact heap_alloc_new _ _) | (with_reducible exact blk_new (by first | (simp; done) | omega)) | (with_reducible refine blk_drew ?_) | (with_reducible apply put1_0) | (with_reducible apply put2_0) | (with_reducible apply put2_1) | (with_reducible apply put3_0) | (with_reducible apply put3_1) | (with_reducible apply put3_2) | (with_reducible apply put4_0) | (with_reducible apply put4_1) | (with_reducible apply put4_2) | (with_reducible apply put4_3) | (with_reducible apply put5_0) | (with_reducible apply put5_1) | (with_reducible apply put5_2) | (with_reducible apply put5_3) | (with_reducible apply put5_4) | (with_reducible apply put6_0) | (with_reducible apply put6_1) | (with_reducible apply put6_2) | (with_reducible apply put6_3) | (with_reducible apply put6_4) | (with_reducible apply put6_5) | (with_reducible refine blk_else (by omega) ?_) | (with_reducible refine blk_old ?_)))
    have Xd : v3.heap[Bd]? = some (.cells #[.int .u64 dr, .int .u64 db, .int .u64 dt] 25 (0, 0)) := by
      rw [hv3]
      (repeat' (first | (with_reducible exact Hc3.out) | (with_reducible exact Ha3.out) | (with_reducible exact Hd3.out) | (with_reducible exact He3.out) | (with_reducible exact heap_alloc_new _ _) | (with_reducible exact blk_new (by first | (simp; done) | omega)) | (with_reducible refine blk_drew ?_) | (with_reducible apply put1_0) | (with_reducible apply put2_0) | (with_reducible apply put2_1) | (with_reducible apply put3_0) | (with_reducible apply put3_1) | (with_reducible apply put3_2) | (with_reducible apply put4_0) | (with_reducible apply put4_1) | (with_reducible apply put4_2) | (with_reducible apply put4_3) | (with_reducible apply put5_0) | (with_reducible apply put5_1) | (with_reducible apply put5_2) | (with_reducible apply put5_3) | (with_reducible apply put5_4) | (with_reducible apply put6_0) | (with_reducible apply put6_1) | (with_reducible apply put6_2) | (with_reducible apply put6_3) | (with_reducible apply put6_4) | (with_reducible apply put6_5) | (with_reducible refine blk_else (by omega) ?_) | (with_reducible refine blk_old ?_)))
    have Xe : v3.heap[Be]? = some (.cells #[.int .u64 dr, .int .u64 db, .int .u64 dt] 24 (0, 0)) := by
      rw [hv3]
      (repeat' (first | (with_reducible exact Hc3.out) | (with_reducible exact Ha3.out) | (with_reducible exact Hd3.out) | (with_reducible exact He3.out) | (with_reducible exact heap_alloc_new _ _) | (with_reducible exact blk_new (by first | (simp; done) | omega)) | (with_reducible refine blk_drew ?_) | (with_reducible apply put1_0) | (with_reducible apply put2_0) | (with_reducible apply put2_1) | (with_reducible apply put3_0) | (with_reducible apply put3_1) | (with_reducible apply put3_2) | (with_reducible apply put4_0) | (with_reducible apply put4_1) | (with_reducible apply put4_2) | (with_reducible apply put4_3) | (with_reducible apply put5_0) | (with_reducible apply put5_1) | (with_reducible apply put5_2) | (with_reducible apply put5_3) | (with_reducible apply put5_4) | (with_reducible apply put6_0) | (with_reducible apply put6_1) | (with_reducible apply put6_2) | (with_reducible apply put6_3) | (with_reducible apply put6_4) | (with_reducible apply put6_5) | (with_reducible refine blk_else (by omega) ?_) | (with_reducible refine blk_old ?_)))
    have XB : Below w.heap.size w v3 := by
      rw [hv3]
      (repeat' (first | (with_reducible exact HB3.out) | exact Below.refl _ _ | refine below_drewN _ ?_ | refine Below.drew ?_ | refine Below.setCell ?_ (by first | (simp; done) | omega) _ | refine Below.alloc ?_ (by have := HB3.out.size; simp; omega) _))
    clear c0_ c1_ c2_ cf0_ cf1_ cf2_ cn_ cm_ cl_ a0_ a1_ a2_ af0_ af1_ af2_ an_ am_ al_ d0_ d1_ d2_ df0_ df1_ df2_ dn_ dm_ dl_ e0_ e1_ e2_ ef0_ ef1_ ef2_ en_ em_ el_
    clear hv3 Hc3 Ha3 Hd3 He3 HB3
    refine (RW.out _).mono ?_
    rintro e w4 ⟨rfl, bb⟩
    have Hc4 := Lib.hid (blk_call bb Xc)
    have Ha4 := Lib.hid (blk_call bb Xa)
    have Hd4 := Lib.hid (blk_call bb Xd)
    have He4 := Lib.hid (blk_call bb Xe)
    have HB4 := Lib.hid (bel_onto XB bb XB.size)
    clear Xc Xa Xd Xe XB bb
    obtain ⟨c0_, c1_, c2_, cf0_, cf1_, cf2_⟩ := at3 Hc4.out
    have cn_ := ne_blk Hc4.out
    have cm_ := Ne.symm (a := Bc) cn_
    have cl_ := lt_blk Hc4.out
    obtain ⟨a0_, a1_, a2_, af0_, af1_, af2_⟩ := at3 Ha4.out
    have an_ := ne_blk Ha4.out
    have am_ := Ne.symm (a := Ba) an_
    have al_ := lt_blk Ha4.out
    obtain ⟨d0_, d1_, d2_, df0_, df1_, df2_⟩ := at3 Hd4.out
    have dn_ := ne_blk Hd4.out
    have dm_ := Ne.symm (a := Bd) dn_
    have dl_ := lt_blk Hd4.out
    obtain ⟨e0_, e1_, e2_, ef0_, ef1_, ef2_⟩ := at3 He4.out
    have en_ := ne_blk He4.out
    have em_ := Ne.symm (a := Be) en_
    have el_ := lt_blk He4.out
    go_wp2_with fail
    refine cl_gen ?_
    intro v4 hv4
    have Xc : v4.heap[Bc]? = some (.cells #[.int .u64 r, .int .u64 b, .int .u64 t] 25 (0, 0)) := by
      rw [hv4]
      (repeat' (first | (with_reducible exact Hc4.out) | (with_reducible exact Ha4.out) | (with_reducible exact Hd4.out) | (with_reducible exact He4.out) | (with_reducible exact heap_alloc_new _ _) | (with_reducible exact blk_new (by first | (simp; done) | omega)) | (with_reducible refine blk_drew ?_) | (with_reducible apply put1_0) | (with_reducible apply put2_0) | (with_reducible apply put2_1) | (with_reducible apply put3_0) | (with_reducible apply put3_1) | (with_reducible apply put3_2) | (with_reducible apply put4_0) | (with_reducible apply put4_1) | (with_reducible apply put4_2) | (with_reducible apply put4_3) | (with_reducible apply put5_0) | (with_reducible apply put5_1) | (with_reducible apply put5_2) | (with_reducible apply put5_3) | (with_reducible apply put5_4) | (with_reducible apply put6_0) | (with_reducible apply put6_1) | (with_reducible apply put6_2) | (with_reducible apply put6_3) | (with_reducible apply put6_4) | (with_reducible apply put6_5) | (with_reducible refine blk_else (by omega) ?_) | (with_reducible refine blk_old ?_)))
    have Xa : v4.heap[Ba]? = some (.cells #[.int .u64 r, .int .u64 b, .int .u64 t] 24 (0, 0)) := by
      rw [hv4]
      (repeat' (first | (with_reducible exact Hc4.out) | (with_reducible exact Ha4.out) | (with_reducible exact Hd4.out) | (with_reducible exact He4.out) | (with_reducible exact heap_alloc_new _ _) | (with_reducible exact blk_new (by first | (simp; done) | omega)) | (with_reducible refine blk_drew ?_) | (with_reducible apply put1_0) | (with_reducible apply put2_0) | (with_reducible apply put2_1) | (with_reducible apply put3_0) | (with_reducible apply put3_1) | (with_reducible apply put3_2) | (with_reducible apply put4_0) | (with_reducible apply put4_1) | (with_reducible apply put4_2) | (with_reducible apply put4_3) | (with_reducible apply put5_0) | (with_reducible apply put5_1) | (with_reducible apply put5_2) | (with_reducible apply put5_3) | (with_reducible apply put5_4) | (with_reducible apply put6_0) | (with_reducible apply put6_1) | (with_reducible apply put6_2) | (with_reducible apply put6_3) | (with_reducible apply put6_4) | (with_reducible apply put6_5) | (with_reducible refine blk_else (by omega) ?_) | (with_reducible refine blk_old ?_)))
    have Xd : v4.heap[Bd]? = some (.cells #[.int .u64 dr, .int .u64 db, .int .u64 dt] 25 (0, 0)) := by
      rw [hv4]
      (repeat' (first | (with_reducible exact Hc4.out) | (with_reducible exact Ha4.out) | (with_reducible exact Hd4.out) | (with_reducible exact He4.out) | (with_reducible exact heap_alloc_new _ _) | (with_reducible exact blk_new (by first | (simp; done) | omega)) | (with_reducible refine blk_drew ?_) | (with_reducible apply put1_0) | (with_reducible apply put2_0) | (with_reducible apply put2_1) | (with_reducible apply put3_0) | (with_reducible apply put3_1) | (with_reducible apply put3_2) | (with_reducible apply put4_0) | (with_reducible apply put4_1) | (with_reducible apply put4_2) | (with_reducible apply put4_3) | (with_reducible apply put5_0) | (with_reducible apply put5_1) | (with_reducible apply put5_2) | (with_reducible apply put5_3) | (with_reducible apply put5_4) | (with_reducible apply put6_0) | (with_reducible apply put6_1) | (with_reducible apply put6_2) | (with_reducible apply put6_3) | (with_reducible apply put6_4) | (with_reducible apply put6_5) | (with_reducible refine blk_else (by omega) ?_) | (with_reducible refine blk_old ?_)))
    have Xe : v4.heap[Be]? = some (.cells #[.int .u64 dr, .int .u64 db, .int .u64 dt] 24 (0, 0)) := by
      rw [hv4]
      (repeat' (first | (with_reducible exact Hc4.out) | (with_reducible exact Ha4.out) | (with_reducible exact Hd4.out) | (with_reducible exact He4.out) | (with_reducible exact heap_alloc_new _ _) | (with_reducible exact blk_new (by first | (simp; done) | omega)) | (with_reducible refine blk_drew ?_) | (with_reducible apply put1_0) | (with_reducible apply put2_0) | (with_reducible apply put2_1) | (with_reducible apply put3_0) | (with_reducible apply put3_1) | (with_reducible apply put3_2) | (with_reducible apply put4_0) | (with_reducible apply put4_1) | (with_reducible apply put4_2) | (with_reducible apply put4_3) | (with_reducible apply put5_0) | (with_reducible apply put5_1) | (with_reducible apply put5_2) | (with_reducible apply put5_3) | (with_reducible apply put5_4) | (with_reducible apply put6_0) | (with_reducible apply put6_1) | (with_reducible apply put6_2) | (with_reducible apply put6_3) | (with_reducible apply put6_4) | (with_reducible apply put6_5) | (with_reducible refine blk_else (by omega) ?_) | (with_reducible refine blk_old ?_)))
    have XB : Below w.heap.size w v4 := by
      rw [hv4]
      (repeat' (first | (with_reducible exact HB4.out) | exact Below.refl _ _ | refine below_drewN _ ?_ | refine Below.drew ?_ | refine Below.setCell ?_ (by first | (simp; done) | omega) _ | refine Below.alloc ?_ (by have := HB4.out.size; simp; omega) _))
    clear c0_ c1_ c2_ cf0_ cf1_ cf2_ cn_ cm_ cl_ a0_ a1_ a2_ af0_ af1_ af2_ an_ am_ al_ d0_ d1_ d2_ df0_ df1_ df2_ dn_ dm_ dl_ e0_ e1_ e2_ ef0_ ef1_ ef2_ en_ em_ el_
    clear hv4 Hc4 Ha4 Hd4 He4 HB4
    refine (NW.out _).mono ?_
    rintro e w5 ⟨rfl, bb⟩
    have Hc5 := Lib.hid (blk_call bb Xc)
    have Ha5 := Lib.hid (blk_call bb Xa)
    have Hd5 := Lib.hid (blk_call bb Xd)
    have He5 := Lib.hid (blk_call bb Xe)
    have HB5 := Lib.hid (bel_onto XB bb XB.size)
    clear Xc Xa Xd Xe XB bb
    obtain ⟨c0_, c1_, c2_, cf0_, cf1_, cf2_⟩ := at3 Hc5.out
    have cn_ := ne_blk Hc5.out
    have cm_ := Ne.symm (a := Bc) cn_
    have cl_ := lt_blk Hc5.out
    obtain ⟨a0_, a1_, a2_, af0_, af1_, af2_⟩ := at3 Ha5.out
    have an_ := ne_blk Ha5.out
    have am_ := Ne.symm (a := Ba) an_
    have al_ := lt_blk Ha5.out
    obtain ⟨d0_, d1_, d2_, df0_, df1_, df2_⟩ := at3 Hd5.out
    have dn_ := ne_blk Hd5.out
    have dm_ := Ne.symm (a := Bd) dn_
    have dl_ := lt_blk Hd5.out
    obtain ⟨e0_, e1_, e2_, ef0_, ef1_, ef2_⟩ := at3 He5.out
    have en_ := ne_blk He5.out
    have em_ := Ne.symm (a := Be) en_
    have el_ := lt_blk He5.out
    go_wp2_with fail
    refine cl_gen ?_
    intro v5 hv5
    have Xc : v5.heap[Bc]? = some (.cells #[.int .u64 r, .int .u64 b, .int .u64 t] 25 (0, 0)) := by
      rw [hv5]
      (repeat' (first | (with_reducible exact Hc5.out) | (with_reducible exact Ha5.out) | (with_reducible exact Hd5.out) | (with_reducible exact He5.out) | (with_reducible exact heap_alloc_new _ _) | (with_reducible exact blk_new (by first | (simp; done) | omega)) | (with_reducible refine blk_drew ?_) | (with_reducible apply put1_0) | (with_reducible apply put2_0) | (with_reducible apply put2_1) | (with_reducible apply put3_0) | (with_reducible apply put3_1) | (with_reducible apply put3_2) | (with_reducible apply put4_0) | (with_reducible apply put4_1) | (with_reducible apply put4_2) | (with_reducible apply put4_3) | (with_reducible apply put5_0) | (with_reducible apply put5_1) | (with_reducible apply put5_2) | (with_reducible apply put5_3) | (with_reducible apply put5_4) | (with_reducible apply put6_0) | (with_reducible apply put6_1) | (with_reducible apply put6_2) | (with_reducible apply put6_3) | (with_reducible apply put6_4) | (with_reducible apply put6_5) | (with_reducible refine blk_else (by omega) ?_) | (with_reducible refine blk_old ?_)))
    have Xa : v5.heap[Ba]? = some (.cells #[.int .u64 r, .int .u64 b, .int .u64 t] 24 (0, 0)) := by
      rw [hv5]
      (repeat' (first | (with_reducible exact Hc5.out) | (with_reducible exact Ha5.out) | (with_reducible exact Hd5.out) | (with_reducible exact He5.out) | (with_reducible exact heap_alloc_new _ _) | (with_reducible exact blk_new (by first | (simp; done) | omega)) | (with_reducible refine blk_drew ?_) | (with_reducible apply put1_0) | (with_reducible apply put2_0) | (with_reducible apply put2_1) | (with_reducible apply put3_0) | (with_reducible apply put3_1) | (with_reducible apply put3_2) | (with_reducible apply put4_0) | (with_reducible apply put4_1) | (with_reducible apply put4_2) | (with_reducible apply put4_3) | (with_reducible apply put5_0) | (with_reducible apply put5_1) | (with_reducible apply put5_2) | (with_reducible apply put5_3) | (with_reducible apply put5_4) | (with_reducible apply put6_0) | (with_reducible apply put6_1) | (with_reducible apply put6_2) | (with_reducible apply put6_3) | (with_reducible apply put6_4) | (with_reducible apply put6_5) | (with_reducible refine blk_else (by omega) ?_) | (with_reducible refine blk_old ?_)))
    have Xd : v5.heap[Bd]? = some (.cells #[.int .u64 dr, .int .u64 db, .int .u64 dt] 25 (0, 0)) := by
      rw [hv5]
      (repeat' (first | (with_reducible exact Hc5.out) | (with_reducible exact Ha5.out) | (with_reducible exact Hd5.out) | (with_reducible exact He5.out) | (with_reducible exact heap_alloc_new _ _) | (with_reducible exact blk_new (by first | (simp; done) | omega)) | (with_reducible refine blk_drew ?_) | (with_reducible apply put1_0) | (with_reducible apply put2_0) | (with_reducible apply put2_1) | (with_reducible apply put3_0) | (with_reducible apply put3_1) | (with_reducible apply put3_2) | (with_reducible apply put4_0) | (with_reducible apply put4_1) | (with_reducible apply put4_2) | (with_reducible apply put4_3) | (with_reducible apply put5_0) | (with_reducible apply put5_1) | (with_reducible apply put5_2) | (with_reducible apply put5_3) | (with_reducible apply put5_4) | (with_reducible apply put6_0) | (with_reducible apply put6_1) | (with_reducible apply put6_2) | (with_reducible apply put6_3) | (with_reducible apply put6_4) | (with_reducible apply put6_5) | (with_reducible refine blk_else (by omega) ?_) | (with_reducible refine blk_old ?_)))
    have Xe : v5.heap[Be]? = some (.cells #[.int .u64 dr, .int .u64 db, .int .u64 dt] 24 (0, 0)) := by
      rw [hv5]
      (repeat' (first | (with_reducible exact Hc5.out) | (with_reducible exact Ha5.out) | (with_reducible exact Hd5.out) | (with_reducible exact He5.out) | (with_reducible exact heap_alloc_new _ _) | (with_reducible exact blk_new (by first | (simp; done) | omega)) | (with_reducible refine blk_drew ?_) | (with_reducible apply put1_0) | (with_reducible apply put2_0) | (with_reducible apply put2_1) | (with_reducible apply put3_0) | (with_reducible apply put3_1) | (with_reducible apply put3_2) | (with_reducible apply put4_0) | (with_reducible apply put4_1) | (with_reducible apply put4_2) | (with_reducible apply put4_3) | (with_reducible apply put5_0) | (with_reducible apply put5_1) | (with_reducible apply put5_2) | (with_reducible apply put5_3) | (with_reducible apply put5_4) | (with_reducible apply put6_0) | (with_reducible apply put6_1) | (with_reducible apply put6_2) | (with_reducible apply put6_3) | (with_reducible apply put6_4) | (with_reducible apply put6_5) | (with_reducible refine blk_else (by omega) ?_) | (with_reducible refine blk_old ?_)))
    have XB : Below w.heap.size w v5 := by
      rw [hv5]
      (repeat' (first | (with_reducible exact HB5.out) | exact Below.refl _ _ | refine below_drewN _ ?_ | refine Below.drew ?_ | refine Below.setCell ?_ (by first | (simp; done) | omega) _ | refine Below.alloc ?_ (by have := HB5.out.size; simp; omega) _))
    have Xf : v5.heap[w5.heap.size]? = some (.cells #[.int .u64 r, .int .u64 b, .int .u64 b] 25 (0, 0)) := by
      rw [hv5]
      (repeat' (first | (with_reducible exact Hc5.out) | (with_reducible exact Ha5.out) | (with_reducible exact Hd5.out) | (with_reducible exact He5.out) | (with_reducible exact heap_alloc_new _ _) | (with_reducible exact blk_new (by first | (simp; done) | omega)) | (with_reducible refine blk_drew ?_) | (with_reducible apply put1_0) | (with_reducible apply put2_0) | (with_reducible apply put2_1) | (with_reducible apply put3_0) | (with_reducible apply put3_1) | (with_reducible apply put3_2) | (with_reducible apply put4_0) | (with_reducible apply put4_1) | (with_reducible apply put4_2) | (with_reducible apply put4_3) | (with_reducible apply put5_0) | (with_reducible apply put5_1) | (with_reducible apply put5_2) | (with_reducible apply put5_3) | (with_reducible apply put5_4) | (with_reducible apply put6_0) | (with_reducible apply put6_1) | (with_reducible apply put6_2) | (with_reducible apply put6_3) | (with_reducible apply put6_4) | (with_reducible apply put6_5) | (with_reducible refine blk_else (by omega) ?_) | (with_reducible refine blk_old ?_)))
    obtain ⟨Bf, hBf⟩ : ∃ x, x = w5.heap.size := ⟨_, rfl⟩
    rw [← hBf] at Xf
    try rw [← hBf]
    have nfc : ¬ Bf = Bc := by have := lt_blk Hc5.out; omega
    have ncf : ¬ Bc = Bf := fun h => nfc h.symm
    have nfa : ¬ Bf = Ba := by have := lt_blk Ha5.out; omega
    have naf : ¬ Ba = Bf := fun h => nfa h.symm
    have nfd : ¬ Bf = Bd := by have := lt_blk Hd5.out; omega
    have ndf : ¬ Bd = Bf := fun h => nfd h.symm
    have nfe : ¬ Bf = Be := by have := lt_blk He5.out; omega
    have nef : ¬ Be = Bf := fun h => nfe h.symm
    have lef : w.heap.size ≤ Bf := by have := HB5.out.size; omega
    clear hBf
    clear c0_ c1_ c2_ cf0_ cf1_ cf2_ cn_ cm_ cl_ a0_ a1_ a2_ af0_ af1_ af2_ an_ am_ al_ d0_ d1_ d2_ df0_ df1_ df2_ dn_ dm_ dl_ e0_ e1_ e2_ ef0_ ef1_ ef2_ en_ em_ el_
    clear hv5 Hc5 Ha5 Hd5 He5 HB5
    refine (CF.out _).mono ?_
    rintro e w6 ⟨rfl, bb⟩
    have Hc6 := Lib.hid (blk_call bb Xc)
    have Ha6 := Lib.hid (blk_call bb Xa)
    have Hd6 := Lib.hid (blk_call bb Xd)
    have He6 := Lib.hid (blk_call bb Xe)
    have Hf6 := Lib.hid (blk_call bb Xf)
    have HB6 := Lib.hid (bel_onto XB bb XB.size)
    clear Xc Xa Xd Xe Xf XB bb
    obtain ⟨c0_, c1_, c2_, cf0_, cf1_, cf2_⟩ := at3 Hc6.out
    have cn_ := ne_blk Hc6.out
    have cm_ := Ne.symm (a := Bc) cn_
    have cl_ := lt_blk Hc6.out
    obtain ⟨a0_, a1_, a2_, af0_, af1_, af2_⟩ := at3 Ha6.out
    have an_ := ne_blk Ha6.out
    have am_ := Ne.symm (a := Ba) an_
    have al_ := lt_blk Ha6.out
    obtain ⟨d0_, d1_, d2_, df0_, df1_, df2_⟩ := at3 Hd6.out
    have dn_ := ne_blk Hd6.out
    have dm_ := Ne.symm (a := Bd) dn_
    have dl_ := lt_blk Hd6.out
    obtain ⟨e0_, e1_, e2_, ef0_, ef1_, ef2_⟩ := at3 He6.out
    have en_ := ne_blk He6.out
    have em_ := Ne.symm (a := Be) en_
    have el_ := lt_blk He6.out
    obtain ⟨f0_, f1_, f2_, ff0_, ff1_, ff2_⟩ := at3 Hf6.out
    have fn_ := ne_blk Hf6.out
    have fm_ := Ne.symm (a := Bf) fn_
    have fl_ := lt_blk Hf6.out
    go_wp2
    have S0 := Lib.hid (fun v (hv : Below w6.heap.size w6 v) => (⟨cell_blk (blk_call hv Ha6.out) 0 rfl, cell_blk (blk_call hv Ha6.out) 1 rfl, cell_blk (blk_call hv Ha6.out) 2 rfl, cell_blk (blk_call hv Hc6.out) 0 rfl, cell_blk (blk_call hv Hc6.out) 1 rfl, cell_blk (blk_call hv Hc6.out) 2 rfl, cell_blk (blk_call hv Hd6.out) 0 rfl, cell_blk (blk_call hv Hd6.out) 1 rfl, cell_blk (blk_call hv Hd6.out) 2 rfl, cell_blk (blk_call hv He6.out) 0 rfl, cell_blk (blk_call hv He6.out) 1 rfl, cell_blk (blk_call hv He6.out) 2 rfl, bel_onto HB6.out hv HB6.out.size⟩ : v.cell? ⟨Ba, 0, none⟩ = some (.int .u64 r) ∧ v.cell? ⟨Ba, 1, none⟩ = some (.int .u64 b) ∧ v.cell? ⟨Ba, 2, none⟩ = some (.int .u64 t) ∧ v.cell? ⟨Bc, 0, none⟩ = some (.int .u64 r) ∧ v.cell? ⟨Bc, 1, none⟩ = some (.int .u64 b) ∧ v.cell? ⟨Bc, 2, none⟩ = some (.int .u64 t) ∧ v.cell? ⟨Bd, 0, none⟩ = some (.int .u64 dr) ∧ v.cell? ⟨Bd, 1, none⟩ = some (.int .u64 db) ∧ v.cell? ⟨Bd, 2, none⟩ = some (.int .u64 dt) ∧ v.cell? ⟨Be, 0, none⟩ = some (.int .u64 dr) ∧ v.cell? ⟨Be, 1, none⟩ = some (.int .u64 db) ∧ v.cell? ⟨Be, 2, none⟩ = some (.int .u64 dt) ∧ Below w.heap.size w v))
    go_region_held3 (fun v => v.cell? ⟨Ba, 0, none⟩ = some (.int .u64 r) ∧ v.cell? ⟨Ba, 1, none⟩ = some (.int .u64 b) ∧ v.cell? ⟨Ba, 2, none⟩ = some (.int .u64 t) ∧ v.cell? ⟨Bc, 0, none⟩ = some (.int .u64 r) ∧ v.cell? ⟨Bc, 1, none⟩ = some (.int .u64 b) ∧ v.cell? ⟨Bc, 2, none⟩ = some (.int .u64 t) ∧ v.cell? ⟨Bd, 0, none⟩ = some (.int .u64 dr) ∧ v.cell? ⟨Bd, 1, none⟩ = some (.int .u64 db) ∧ v.cell? ⟨Bd, 2, none⟩ = some (.int .u64 dt) ∧ v.cell? ⟨Be, 0, none⟩ = some (.int .u64 dr) ∧ v.cell? ⟨Be, 1, none⟩ = some (.int .u64 db) ∧ v.cell? ⟨Be, 2, none⟩ = some (.int .u64 dt) ∧ Below w.heap.size w v)
      (exact S0.out _ (by repeat' (first | (with_reducible exact Below.refl _ _) | (with_reducible exact (Below.refl _ _).drew) | (with_reducible refine bel_call (by with_reducible assumption) ?_ (Nat.le_refl _)))))
      (first
        | (go_at_call 23; with_reducible refine (CK.out _).mono ?_; rintro e u0 ⟨rfl, h0_⟩)
        | (go_at_call 22; with_reducible refine (RC.out _).mono ?_; rintro e u1 ⟨rfl, h1_⟩)
        | (go_at_call 24; with_reducible refine (TI.out _).mono ?_; rintro e u2 ⟨rfl, h2_⟩)
        | (go_at_call 25; with_reducible refine (RI.out _).mono ?_; rintro e u3 ⟨rfl, h3_⟩)
        | (go_at_call 26; with_reducible refine (LV.out _).mono ?_; rintro e u4 ⟨rfl, h4_⟩)
        | fail)
    go_wp2
    go_ret
    refine ⟨rfl, ?_⟩
    (repeat' (first | (with_reducible exact HB6.out) | (with_reducible refine below_drewN _ ?_) | (with_reducible refine Below.drew ?_) | (with_reducible refine bel_call (by with_reducible assumption) ?_ (by have := HB6.out.size; omega)) | (refine Below.alloc ?_ (by have := HB6.out.size; simp; omega) _)))
  · rw [if_neg hf] at NW
    have g1 : (f == 0) = false := by simp [hf]
    have g2 : (f != 0) = true := by simp [hf]
    clear hf
    go_enter Try.func3, Try.ntmps3
    go_wp2_with fail
    refine cl_gen ?_
    intro v0 hv0
    have XB : Below w.heap.size w v0 := by
      rw [hv0]
      (repeat' (first | exact Below.refl _ _ | (with_reducible assumption) | refine below_drewN _ ?_ | refine Below.drew ?_ | refine Below.setCell ?_ (by simp) _ | refine Below.alloc ?_ (by simp; try omega) _))
    have Xa : v0.heap[w.heap.size]? = some (.cells #[.int .u64 r, .int .u64 b, .int .u64 t] 24 (0, 0)) := by
      rw [hv0]
      (repeat' (first | (with_reducible exact heap_alloc_new _ _) | (with_reducible exact blk_new (by first | (simp; done) | omega)) | (with_reducible refine blk_drew ?_) | (with_reducible apply put1_0) | (with_reducible apply put2_0) | (with_reducible apply put2_1) | (with_reducible apply put3_0) | (with_reducible apply put3_1) | (with_reducible apply put3_2) | (with_reducible apply put4_0) | (with_reducible apply put4_1) | (with_reducible apply put4_2) | (with_reducible apply put4_3) | (with_reducible apply put5_0) | (with_reducible apply put5_1) | (with_reducible apply put5_2) | (with_reducible apply put5_3) | (with_reducible apply put5_4) | (with_reducible apply put6_0) | (with_reducible apply put6_1) | (with_reducible apply put6_2) | (with_reducible apply put6_3) | (with_reducible apply put6_4) | (with_reducible apply put6_5) | (with_reducible refine blk_else (by omega) ?_) | (with_reducible refine blk_old ?_)))
    have Xc : v0.heap[w.heap.size + 1]? = some (.cells #[.int .u64 r, .int .u64 b, .int .u64 t] 25 (0, 0)) := by
      rw [hv0]
      (repeat' (first | (with_reducible exact heap_alloc_new _ _) | (with_reducible exact blk_new (by first | (simp; done) | omega)) | (with_reducible refine blk_drew ?_) | (with_reducible apply put1_0) | (with_reducible apply put2_0) | (with_reducible apply put2_1) | (with_reducible apply put3_0) | (with_reducible apply put3_1) | (with_reducible apply put3_2) | (with_reducible apply put4_0) | (with_reducible apply put4_1) | (with_reducible apply put4_2) | (with_reducible apply put4_3) | (with_reducible apply put5_0) | (with_reducible apply put5_1) | (with_reducible apply put5_2) | (with_reducible apply put5_3) | (with_reducible apply put5_4) | (with_reducible apply put6_0) | (with_reducible apply put6_1) | (with_reducible apply put6_2) | (with_reducible apply put6_3) | (with_reducible apply put6_4) | (with_reducible apply put6_5) | (with_reducible refine blk_else (by omega) ?_) | (with_reducible refine blk_old ?_)))
    obtain ⟨Bc, hBc⟩ : ∃ x, x = w.heap.size + 1 := ⟨_, rfl⟩
    rw [← hBc] at Xc
    try rw [← hBc]
    have lec : w.heap.size ≤ Bc := by omega
    obtain ⟨Ba, hBa⟩ : ∃ x, x = w.heap.size := ⟨_, rfl⟩
    rw [← hBa] at Xa
    try rw [← hBa]
    have nac : ¬ Ba = Bc := by omega
    have nca : ¬ Bc = Ba := fun h => nac h.symm
    have lea : w.heap.size ≤ Ba := by omega
    clear hBa hBc
    clear hv0
    refine (TK.out _).mono ?_
    rintro e w1 ⟨rfl, bb⟩
    have Hc1 := Lib.hid (blk_call bb Xc)
    have Ha1 := Lib.hid (blk_call bb Xa)
    have HB1 := Lib.hid (bel_onto XB bb XB.size)
    clear Xc Xa XB bb
    obtain ⟨c0_, c1_, c2_, cf0_, cf1_, cf2_⟩ := at3 Hc1.out
    have cn_ := ne_blk Hc1.out
    have cm_ := Ne.symm (a := Bc) cn_
    have cl_ := lt_blk Hc1.out
    obtain ⟨a0_, a1_, a2_, af0_, af1_, af2_⟩ := at3 Ha1.out
    have an_ := ne_blk Ha1.out
    have am_ := Ne.symm (a := Ba) an_
    have al_ := lt_blk Ha1.out
    go_wp2_with fail
    refine cl_gen ?_
    intro v1 hv1
    have Xc : v1.heap[Bc]? = some (.cells #[.int .u64 r, .int .u64 b, .int .u64 t] 25 (0, 0)) := by
      rw [hv1]
      (repeat' (first | (with_reducible exact Hc1.out) | (with_reducible exact Ha1.out) | (with_reducible exact heap_alloc_new _ _) | (with_reducible exact blk_new (by first | (simp; done) | omega)) | (with_reducible refine blk_drew ?_) | (with_reducible apply put1_0) | (with_reducible apply put2_0) | (with_reducible apply put2_1) | (with_reducible apply put3_0) | (with_reducible apply put3_1) | (with_reducible apply put3_2) | (with_reducible apply put4_0) | (with_reducible apply put4_1) | (with_reducible apply put4_2) | (with_reducible apply put4_3) | (with_reducible apply put5_0) | (with_reducible apply put5_1) | (with_reducible apply put5_2) | (with_reducible apply put5_3) | (with_reducible apply put5_4) | (with_reducible apply put6_0) | (with_reducible apply put6_1) | (with_reducible apply put6_2) | (with_reducible apply put6_3) | (with_reducible apply put6_4) | (with_reducible apply put6_5) | (with_reducible refine blk_else (by omega) ?_) | (with_reducible refine blk_old ?_)))
    have Xa : v1.heap[Ba]? = some (.cells #[.int .u64 r, .int .u64 b, .int .u64 t] 24 (0, 0)) := by
      rw [hv1]
      (repeat' (first | (with_reducible exact Hc1.out) | (with_reducible exact Ha1.out) | (with_reducible exact heap_alloc_new _ _) | (with_reducible exact blk_new (by first | (simp; done) | omega)) | (with_reducible refine blk_drew ?_) | (with_reducible apply put1_0) | (with_reducible apply put2_0) | (with_reducible apply put2_1) | (with_reducible apply put3_0) | (with_reducible apply put3_1) | (with_reducible apply put3_2) | (with_reducible apply put4_0) | (with_reducible apply put4_1) | (with_reducible apply put4_2) | (with_reducible apply put4_3) | (with_reducible apply put5_0) | (with_reducible apply put5_1) | (with_reducible apply put5_2) | (with_reducible apply put5_3) | (with_reducible apply put5_4) | (with_reducible apply put6_0) | (with_reducible apply put6_1) | (with_reducible apply put6_2) | (with_reducible apply put6_3) | (with_reducible apply put6_4) | (with_reducible apply put6_5) | (with_reducible refine blk_else (by omega) ?_) | (with_reducible refine blk_old ?_)))
    have XB : Below w.heap.size w v1 := by
      rw [hv1]
      (repeat' (first | (with_reducible exact HB1.out) | exact Below.refl _ _ | refine below_drewN _ ?_ | refine Below.drew ?_ | refine Below.setCell ?_ (by first | (simp; done) | omega) _ | refine Below.alloc ?_ (by have := HB1.out.size; simp; omega) _))
    have Xd : v1.heap[w1.heap.size]? = some (.cells #[.int .u64 dr, .int .u64 db, .int .u64 dt] 25 (0, 0)) := by
      rw [hv1]
      (repeat' (first | (with_reducible exact Hc1.out) | (with_reducible exact Ha1.out) | (with_reducible exact heap_alloc_new _ _) | (with_reducible exact blk_new (by first | (simp; done) | omega)) | (with_reducible refine blk_drew ?_) | (with_reducible apply put1_0) | (with_reducible apply put2_0) | (with_reducible apply put2_1) | (with_reducible apply put3_0) | (with_reducible apply put3_1) | (with_reducible apply put3_2) | (with_reducible apply put4_0) | (with_reducible apply put4_1) | (with_reducible apply put4_2) | (with_reducible apply put4_3) | (with_reducible apply put5_0) | (with_reducible apply put5_1) | (with_reducible apply put5_2) | (with_reducible apply put5_3) | (with_reducible apply put5_4) | (with_reducible apply put6_0) | (with_reducible apply put6_1) | (with_reducible apply put6_2) | (with_reducible apply put6_3) | (with_reducible apply put6_4) | (with_reducible apply put6_5) | (with_reducible refine blk_else (by omega) ?_) | (with_reducible refine blk_old ?_)))
    obtain ⟨Bd, hBd⟩ : ∃ x, x = w1.heap.size := ⟨_, rfl⟩
    rw [← hBd] at Xd
    try rw [← hBd]
    have ndc : ¬ Bd = Bc := by have := lt_blk Hc1.out; omega
    have ncd : ¬ Bc = Bd := fun h => ndc h.symm
    have nda : ¬ Bd = Ba := by have := lt_blk Ha1.out; omega
    have nad : ¬ Ba = Bd := fun h => nda h.symm
    have led : w.heap.size ≤ Bd := by have := HB1.out.size; omega
    clear hBd
    clear c0_ c1_ c2_ cf0_ cf1_ cf2_ cn_ cm_ cl_ a0_ a1_ a2_ af0_ af1_ af2_ an_ am_ al_
    clear hv1 Hc1 Ha1 HB1
    refine (RT.out _).mono ?_
    rintro e w2 ⟨rfl, bb⟩
    have Hc2 := Lib.hid (blk_call bb Xc)
    have Ha2 := Lib.hid (blk_call bb Xa)
    have Hd2 := Lib.hid (blk_call bb Xd)
    have HB2 := Lib.hid (bel_onto XB bb XB.size)
    clear Xc Xa Xd XB bb
    obtain ⟨c0_, c1_, c2_, cf0_, cf1_, cf2_⟩ := at3 Hc2.out
    have cn_ := ne_blk Hc2.out
    have cm_ := Ne.symm (a := Bc) cn_
    have cl_ := lt_blk Hc2.out
    obtain ⟨a0_, a1_, a2_, af0_, af1_, af2_⟩ := at3 Ha2.out
    have an_ := ne_blk Ha2.out
    have am_ := Ne.symm (a := Ba) an_
    have al_ := lt_blk Ha2.out
    obtain ⟨d0_, d1_, d2_, df0_, df1_, df2_⟩ := at3 Hd2.out
    have dn_ := ne_blk Hd2.out
    have dm_ := Ne.symm (a := Bd) dn_
    have dl_ := lt_blk Hd2.out
    go_wp2_with fail
    refine cl_gen ?_
    intro v2 hv2
    have Xc : v2.heap[Bc]? = some (.cells #[.int .u64 r, .int .u64 b, .int .u64 t] 25 (0, 0)) := by
      rw [hv2]
      (repeat' (first | (with_reducible exact Hc2.out) | (with_reducible exact Ha2.out) | (with_reducible exact Hd2.out) | (with_reducible exact heap_alloc_new _ _) | (with_reducible exact blk_new (by first | (simp; done) | omega)) | (with_reducible refine blk_drew ?_) | (with_reducible apply put1_0) | (with_reducible apply put2_0) | (with_reducible apply put2_1) | (with_reducible apply put3_0) | (with_reducible apply put3_1) | (with_reducible apply put3_2) | (with_reducible apply put4_0) | (with_reducible apply put4_1) | (with_reducible apply put4_2) | (with_reducible apply put4_3) | (with_reducible apply put5_0) | (with_reducible apply put5_1) | (with_reducible apply put5_2) | (with_reducible apply put5_3) | (with_reducible apply put5_4) | (with_reducible apply put6_0) | (with_reducible apply put6_1) | (with_reducible apply put6_2) | (with_reducible apply put6_3) | (with_reducible apply put6_4) | (with_reducible apply put6_5) | (with_reducible refine blk_else (by omega) ?_) | (with_reducible refine blk_old ?_)))
    have Xa : v2.heap[Ba]? = some (.cells #[.int .u64 r, .int .u64 b, .int .u64 t] 24 (0, 0)) := by
      rw [hv2]
      (repeat' (first | (with_reducible exact Hc2.out) | (with_reducible exact Ha2.out) | (with_reducible exact Hd2.out) | (with_reducible exact heap_alloc_new _ _) | (with_reducible exact blk_new (by first | (simp; done) | omega)) | (with_reducible refine blk_drew ?_) | (with_reducible apply put1_0) | (with_reducible apply put2_0) | (with_reducible apply put2_1) | (with_reducible apply put3_0) | (with_reducible apply put3_1) | (with_reducible apply put3_2) | (with_reducible apply put4_0) | (with_reducible apply put4_1) | (with_reducible apply put4_2) | (with_reducible apply put4_3) | (with_reducible apply put5_0) | (with_reducible apply put5_1) | (with_reducible apply put5_2) | (with_reducible apply put5_3) | (with_reducible apply put5_4) | (with_reducible apply put6_0) | (with_reducible apply put6_1) | (with_reducible apply put6_2) | (with_reducible apply put6_3) | (with_reducible apply put6_4) | (with_reducible apply put6_5) | (with_reducible refine blk_else (by omega) ?_) | (with_reducible refine blk_old ?_)))
    have Xd : v2.heap[Bd]? = some (.cells #[.int .u64 dr, .int .u64 db, .int .u64 dt] 25 (0, 0)) := by
      rw [hv2]
      (repeat' (first | (with_reducible exact Hc2.out) | (with_reducible exact Ha2.out) | (with_reducible exact Hd2.out) | (with_reducible exact heap_alloc_new _ _) | (with_reducible exact blk_new (by first | (simp; done) | omega)) | (with_reducible refine blk_drew ?_) | (with_reducible apply put1_0) | (with_reducible apply put2_0) | (with_reducible apply put2_1) | (with_reducible apply put3_0) | (with_reducible apply put3_1) | (with_reducible apply put3_2) | (with_reducible apply put4_0) | (with_reducible apply put4_1) | (with_reducible apply put4_2) | (with_reducible apply put4_3) | (with_reducible apply put5_0) | (with_reducible apply put5_1) | (with_reducible apply put5_2) | (with_reducible apply put5_3) | (with_reducible apply put5_4) | (with_reducible apply put6_0) | (with_reducible apply put6_1) | (with_reducible apply put6_2) | (with_reducible apply put6_3) | (with_reducible apply put6_4) | (with_reducible apply put6_5) | (with_reducible refine blk_else (by omega) ?_) | (with_reducible refine blk_old ?_)))
    have XB : Below w.heap.size w v2 := by
      rw [hv2]
      (repeat' (first | (with_reducible exact HB2.out) | exact Below.refl _ _ | refine below_drewN _ ?_ | refine Below.drew ?_ | refine Below.setCell ?_ (by first | (simp; done) | omega) _ | refine Below.alloc ?_ (by have := HB2.out.size; simp; omega) _))
    have Xe : v2.heap[w2.heap.size]? = some (.cells #[.int .u64 dr, .int .u64 db, .int .u64 dt] 24 (0, 0)) := by
      rw [hv2]
      (repeat' (first | (with_reducible exact Hc2.out) | (with_reducible exact Ha2.out) | (with_reducible exact Hd2.out) | (with_reducible exact heap_alloc_new _ _) | (with_reducible exact blk_new (by first | (simp; done) | omega)) | (with_reducible refine blk_drew ?_) | (with_reducible apply put1_0) | (with_reducible apply put2_0) | (with_reducible apply put2_1) | (with_reducible apply put3_0) | (with_reducible apply put3_1) | (with_reducible apply put3_2) | (with_reducible apply put4_0) | (with_reducible apply put4_1) | (with_reducible apply put4_2) | (with_reducible apply put4_3) | (with_reducible apply put5_0) | (with_reducible apply put5_1) | (with_reducible apply put5_2) | (with_reducible apply put5_3) | (with_reducible apply put5_4) | (with_reducible apply put6_0) | (with_reducible apply put6_1) | (with_reducible apply put6_2) | (with_reducible apply put6_3) | (with_reducible apply put6_4) | (with_reducible apply put6_5) | (with_reducible refine blk_else (by omega) ?_) | (with_reducible refine blk_old ?_)))
    obtain ⟨Be, hBe⟩ : ∃ x, x = w2.heap.size := ⟨_, rfl⟩
    rw [← hBe] at Xe
    try rw [← hBe]
    have nec : ¬ Be = Bc := by have := lt_blk Hc2.out; omega
    have nce : ¬ Bc = Be := fun h => nec h.symm
    have nea : ¬ Be = Ba := by have := lt_blk Ha2.out; omega
    have nae : ¬ Ba = Be := fun h => nea h.symm
    have ned : ¬ Be = Bd := by have := lt_blk Hd2.out; omega
    have nde : ¬ Bd = Be := fun h => ned h.symm
    have lee : w.heap.size ≤ Be := by have := HB2.out.size; omega
    clear hBe
    clear c0_ c1_ c2_ cf0_ cf1_ cf2_ cn_ cm_ cl_ a0_ a1_ a2_ af0_ af1_ af2_ an_ am_ al_ d0_ d1_ d2_ df0_ df1_ df2_ dn_ dm_ dl_
    clear hv2 Hc2 Ha2 Hd2 HB2
    refine (WT.out _).mono ?_
    rintro e w3 ⟨rfl, bb⟩
    have Hc3 := Lib.hid (blk_call bb Xc)
    have Ha3 := Lib.hid (blk_call bb Xa)
    have Hd3 := Lib.hid (blk_call bb Xd)
    have He3 := Lib.hid (blk_call bb Xe)
    have HB3 := Lib.hid (bel_onto XB bb XB.size)
    clear Xc Xa Xd Xe XB bb
    obtain ⟨c0_, c1_, c2_, cf0_, cf1_, cf2_⟩ := at3 Hc3.out
    have cn_ := ne_blk Hc3.out
    have cm_ := Ne.symm (a := Bc) cn_
    have cl_ := lt_blk Hc3.out
    obtain ⟨a0_, a1_, a2_, af0_, af1_, af2_⟩ := at3 Ha3.out
    have an_ := ne_blk Ha3.out
    have am_ := Ne.symm (a := Ba) an_
    have al_ := lt_blk Ha3.out
    obtain ⟨d0_, d1_, d2_, df0_, df1_, df2_⟩ := at3 Hd3.out
    have dn_ := ne_blk Hd3.out
    have dm_ := Ne.symm (a := Bd) dn_
    have dl_ := lt_blk Hd3.out
    obtain ⟨e0_, e1_, e2_, ef0_, ef1_, ef2_⟩ := at3 He3.out
    have en_ := ne_blk He3.out
    have em_ := Ne.symm (a := Be) en_
    have el_ := lt_blk He3.out
    go_wp2_with fail
    refine cl_gen ?_
    intro v3 hv3
    have Xc : v3.heap[Bc]? = some (.cells #[.int .u64 r, .int .u64 b, .int .u64 t] 25 (0, 0)) := by
      rw [hv3]
      (repeat' (first | (with_reducible exact Hc3.out) | (with_reducible exact Ha3.out) | (with_reducible exact Hd3.out) | (with_reducible exact He3.out) | (with_reducible exact heap_alloc_new _ _) | (with_reducible exact blk_new (by first | (simp; done) | omega)) | (with_reducible refine blk_drew ?_) | (with_reducible apply put1_0) | (with_reducible apply put2_0) | (with_reducible apply put2_1) | (with_reducible apply put3_0) | (with_reducible apply put3_1) | (with_reducible apply put3_2) | (with_reducible apply put4_0) | (with_reducible apply put4_1) | (with_reducible apply put4_2) | (with_reducible apply put4_3) | (with_reducible apply put5_0) | (with_reducible apply put5_1) | (with_reducible apply put5_2) | (with_reducible apply put5_3) | (with_reducible apply put5_4) | (with_reducible apply put6_0) | (with_reducible apply put6_1) | (with_reducible apply put6_2) | (with_reducible apply put6_3) | (with_reducible apply put6_4) | (with_reducible apply put6_5) | (with_reducible refine blk_else (by omega) ?_) | (with_reducible refine blk_old ?_)))
    have Xa : v3.heap[Ba]? = some (.cells #[.int .u64 r, .int .u64 b, .int .u64 t] 24 (0, 0)) := by
      rw [hv3]
      (repeat' (first | (with_reducible exact Hc3.out) | (with_reducible exact Ha3.out) | (with_reducible exact Hd3.out) | (with_reducible exact He3.out) | (with_reducible exact heap_alloc_new _ _) | (with_reducible exact blk_new (by first | (simp; done) | omega)) | (with_reducible refine blk_drew ?_) | (with_reducible apply put1_0) | (with_reducible apply put2_0) | (with_reducible apply put2_1) | (with_reducible apply put3_0) | (with_reducible apply put3_1) | (with_reducible apply put3_2) | (with_reducible apply put4_0) | (with_reducible apply put4_1) | (with_reducible apply put4_2) | (with_reducible apply put4_3) | (with_reducible apply put5_0) | (with_reducible apply put5_1) | (with_reducible apply put5_2) | (with_reducible apply put5_3) | (with_reducible apply put5_4) | (with_reducible apply put6_0) | (with_reducible apply put6_1) | (with_reducible apply put6_2) | (with_reducible apply put6_3) | (with_reducible apply put6_4) | (with_reducible apply put6_5) | (with_reducible refine blk_else (by omega) ?_) | (with_reducible refine blk_old ?_)))
    have Xd : v3.heap[Bd]? = some (.cells #[.int .u64 dr, .int .u64 db, .int .u64 dt] 25 (0, 0)) := by
      rw [hv3]
      (repeat' (first | (with_reducible exact Hc3.out) | (with_reducible exact Ha3.out) | (with_reducible exact Hd3.out) | (with_reducible exact He3.out) | (with_reducible exact heap_alloc_new _ _) | (with_reducible exact blk_new (by first | (simp; done) | omega)) | (with_reducible refine blk_drew ?_) | (with_reducible apply put1_0) | (with_reducible apply put2_0) | (with_reducible apply put2_1) | (with_reducible apply put3_0) | (with_reducible apply put3_1) | (with_reducible apply put3_2) | (with_reducible apply put4_0) | (with_reducible apply put4_1) | (with_reducible apply put4_2) | (with_reducible apply put4_3) | (with_reducible apply put5_0) | (with_reducible apply put5_1) | (with_reducible apply put5_2) | (with_reducible apply put5_3) | (with_reducible apply put5_4) | (with_reducible apply put6_0) | (with_reducible apply put6_1) | (with_reducible apply put6_2) | (with_reducible apply put6_3) | (with_reducible apply put6_4) | (with_reducible apply put6_5) | (with_reducible refine blk_else (by omega) ?_) | (with_reducible refine blk_old ?_)))
    have Xe : v3.heap[Be]? = some (.cells #[.int .u64 dr, .int .u64 db, .int .u64 dt] 24 (0, 0)) := by
      rw [hv3]
      (repeat' (first | (with_reducible exact Hc3.out) | (with_reducible exact Ha3.out) | (with_reducible exact Hd3.out) | (with_reducible exact He3.out) | (with_reducible exact heap_alloc_new _ _) | (with_reducible exact blk_new (by first | (simp; done) | omega)) | (with_reducible refine blk_drew ?_) | (with_reducible apply put1_0) | (with_reducible apply put2_0) | (with_reducible apply put2_1) | (with_reducible apply put3_0) | (with_reducible apply put3_1) | (with_reducible apply put3_2) | (with_reducible apply put4_0) | (with_reducible apply put4_1) | (with_reducible apply put4_2) | (with_reducible apply put4_3) | (with_reducible apply put5_0) | (with_reducible apply put5_1) | (with_reducible apply put5_2) | (with_reducible apply put5_3) | (with_reducible apply put5_4) | (with_reducible apply put6_0) | (with_reducible apply put6_1) | (with_reducible apply put6_2) | (with_reducible apply put6_3) | (with_reducible apply put6_4) | (with_reducible apply put6_5) | (with_reducible refine blk_else (by omega) ?_) | (with_reducible refine blk_old ?_)))
    have XB : Below w.heap.size w v3 := by
      rw [hv3]
      (repeat' (first | (with_reducible exact HB3.out) | exact Below.refl _ _ | refine below_drewN _ ?_ | refine Below.drew ?_ | refine Below.setCell ?_ (by first | (simp; done) | omega) _ | refine Below.alloc ?_ (by have := HB3.out.size; simp; omega) _))
    clear c0_ c1_ c2_ cf0_ cf1_ cf2_ cn_ cm_ cl_ a0_ a1_ a2_ af0_ af1_ af2_ an_ am_ al_ d0_ d1_ d2_ df0_ df1_ df2_ dn_ dm_ dl_ e0_ e1_ e2_ ef0_ ef1_ ef2_ en_ em_ el_
    clear hv3 Hc3 Ha3 Hd3 He3 HB3
    refine (RW.out _).mono ?_
    rintro e w4 ⟨rfl, bb⟩
    have Hc4 := Lib.hid (blk_call bb Xc)
    have Ha4 := Lib.hid (blk_call bb Xa)
    have Hd4 := Lib.hid (blk_call bb Xd)
    have He4 := Lib.hid (blk_call bb Xe)
    have HB4 := Lib.hid (bel_onto XB bb XB.size)
    clear Xc Xa Xd Xe XB bb
    obtain ⟨c0_, c1_, c2_, cf0_, cf1_, cf2_⟩ := at3 Hc4.out
    have cn_ := ne_blk Hc4.out
    have cm_ := Ne.symm (a := Bc) cn_
    have cl_ := lt_blk Hc4.out
    obtain ⟨a0_, a1_, a2_, af0_, af1_, af2_⟩ := at3 Ha4.out
    have an_ := ne_blk Ha4.out
    have am_ := Ne.symm (a := Ba) an_
    have al_ := lt_blk Ha4.out
    obtain ⟨d0_, d1_, d2_, df0_, df1_, df2_⟩ := at3 Hd4.out
    have dn_ := ne_blk Hd4.out
    have dm_ := Ne.symm (a := Bd) dn_
    have dl_ := lt_blk Hd4.out
    obtain ⟨e0_, e1_, e2_, ef0_, ef1_, ef2_⟩ := at3 He4.out
    have en_ := ne_blk He4.out
    have em_ := Ne.symm (a := Be) en_
    have el_ := lt_blk He4.out
    go_wp2_with fail
    refine cl_gen ?_
    intro v4 hv4
    have Xc : v4.heap[Bc]? = some (.cells #[.int .u64 r, .int .u64 b, .int .u64 t] 25 (0, 0)) := by
      rw [hv4]
      (repeat' (first | (with_reducible exact Hc4.out) | (with_reducible exact Ha4.out) | (with_reducible exact Hd4.out) | (with_reducible exact He4.out) | (with_reducible exact heap_alloc_new _ _) | (with_reducible exact blk_new (by first | (simp; done) | omega)) | (with_reducible refine blk_drew ?_) | (with_reducible apply put1_0) | (with_reducible apply put2_0) | (with_reducible apply put2_1) | (with_reducible apply put3_0) | (with_reducible apply put3_1) | (with_reducible apply put3_2) | (with_reducible apply put4_0) | (with_reducible apply put4_1) | (with_reducible apply put4_2) | (with_reducible apply put4_3) | (with_reducible apply put5_0) | (with_reducible apply put5_1) | (with_reducible apply put5_2) | (with_reducible apply put5_3) | (with_reducible apply put5_4) | (with_reducible apply put6_0) | (with_reducible apply put6_1) | (with_reducible apply put6_2) | (with_reducible apply put6_3) | (with_reducible apply put6_4) | (with_reducible apply put6_5) | (with_reducible refine blk_else (by omega) ?_) | (with_reducible refine blk_old ?_)))
    have Xa : v4.heap[Ba]? = some (.cells #[.int .u64 r, .int .u64 b, .int .u64 t] 24 (0, 0)) := by
      rw [hv4]
      (repeat' (first | (with_reducible exact Hc4.out) | (with_reducible exact Ha4.out) | (with_reducible exact Hd4.out) | (with_reducible exact He4.out) | (with_reducible exact heap_alloc_new _ _) | (with_reducible exact blk_new (by first | (simp; done) | omega)) | (with_reducible refine blk_drew ?_) | (with_reducible apply put1_0) | (with_reducible apply put2_0) | (with_reducible apply put2_1) | (with_reducible apply put3_0) | (with_reducible apply put3_1) | (with_reducible apply put3_2) | (with_reducible apply put4_0) | (with_reducible apply put4_1) | (with_reducible apply put4_2) | (with_reducible apply put4_3) | (with_reducible apply put5_0) | (with_reducible apply put5_1) | (with_reducible apply put5_2) | (with_reducible apply put5_3) | (with_reducible apply put5_4) | (with_reducible apply put6_0) | (with_reducible apply put6_1) | (with_reducible apply put6_2) | (with_reducible apply put6_3) | (with_reducible apply put6_4) | (with_reducible apply put6_5) | (with_reducible refine blk_else (by omega) ?_) | (with_reducible refine blk_old ?_)))
    have Xd : v4.heap[Bd]? = some (.cells #[.int .u64 dr, .int .u64 db, .int .u64 dt] 25 (0, 0)) := by
      rw [hv4]
      (repeat' (first | (with_reducible exact Hc4.out) | (with_reducible exact Ha4.out) | (with_reducible exact Hd4.out) | (with_reducible exact He4.out) | (with_reducible exact heap_alloc_new _ _) | (with_reducible exact blk_new (by first | (simp; done) | omega)) | (with_reducible refine blk_drew ?_) | (with_reducible apply put1_0) | (with_reducible apply put2_0) | (with_reducible apply put2_1) | (with_reducible apply put3_0) | (with_reducible apply put3_1) | (with_reducible apply put3_2) | (with_reducible apply put4_0) | (with_reducible apply put4_1) | (with_reducible apply put4_2) | (with_reducible apply put4_3) | (with_reducible apply put5_0) | (with_reducible apply put5_1) | (with_reducible apply put5_2) | (with_reducible apply put5_3) | (with_reducible apply put5_4) | (with_reducible apply put6_0) | (with_reducible apply put6_1) | (with_reducible apply put6_2) | (with_reducible apply put6_3) | (with_reducible apply put6_4) | (with_reducible apply put6_5) | (with_reducible refine blk_else (by omega) ?_) | (with_reducible refine blk_old ?_)))
    have Xe : v4.heap[Be]? = some (.cells #[.int .u64 dr, .int .u64 db, .int .u64 dt] 24 (0, 0)) := by
      rw [hv4]
      (repeat' (first | (with_reducible exact Hc4.out) | (with_reducible exact Ha4.out) | (with_reducible exact Hd4.out) | (with_reducible exact He4.out) | (with_reducible exact heap_alloc_new _ _) | (with_reducible exact blk_new (by first | (simp; done) | omega)) | (with_reducible refine blk_drew ?_) | (with_reducible apply put1_0) | (with_reducible apply put2_0) | (with_reducible apply put2_1) | (with_reducible apply put3_0) | (with_reducible apply put3_1) | (with_reducible apply put3_2) | (with_reducible apply put4_0) | (with_reducible apply put4_1) | (with_reducible apply put4_2) | (with_reducible apply put4_3) | (with_reducible apply put5_0) | (with_reducible apply put5_1) | (with_reducible apply put5_2) | (with_reducible apply put5_3) | (with_reducible apply put5_4) | (with_reducible apply put6_0) | (with_reducible apply put6_1) | (with_reducible apply put6_2) | (with_reducible apply put6_3) | (with_reducible apply put6_4) | (with_reducible apply put6_5) | (with_reducible refine blk_else (by omega) ?_) | (with_reducible refine blk_old ?_)))
    have XB : Below w.heap.size w v4 := by
      rw [hv4]
      (repeat' (first | (with_reducible exact HB4.out) | exact Below.refl _ _ | refine below_drewN _ ?_ | refine Below.drew ?_ | refine Below.setCell ?_ (by first | (simp; done) | omega) _ | refine Below.alloc ?_ (by have := HB4.out.size; simp; omega) _))
    clear c0_ c1_ c2_ cf0_ cf1_ cf2_ cn_ cm_ cl_ a0_ a1_ a2_ af0_ af1_ af2_ an_ am_ al_ d0_ d1_ d2_ df0_ df1_ df2_ dn_ dm_ dl_ e0_ e1_ e2_ ef0_ ef1_ ef2_ en_ em_ el_
    clear hv4 Hc4 Ha4 Hd4 He4 HB4
    refine (NW.out _).mono ?_
    rintro e w5 ⟨rfl, bb⟩
    have Hc5 := Lib.hid (blk_call bb Xc)
    have Ha5 := Lib.hid (blk_call bb Xa)
    have Hd5 := Lib.hid (blk_call bb Xd)
    have He5 := Lib.hid (blk_call bb Xe)
    have HB5 := Lib.hid (bel_onto XB bb XB.size)
    clear Xc Xa Xd Xe XB bb
    obtain ⟨c0_, c1_, c2_, cf0_, cf1_, cf2_⟩ := at3 Hc5.out
    have cn_ := ne_blk Hc5.out
    have cm_ := Ne.symm (a := Bc) cn_
    have cl_ := lt_blk Hc5.out
    obtain ⟨a0_, a1_, a2_, af0_, af1_, af2_⟩ := at3 Ha5.out
    have an_ := ne_blk Ha5.out
    have am_ := Ne.symm (a := Ba) an_
    have al_ := lt_blk Ha5.out
    obtain ⟨d0_, d1_, d2_, df0_, df1_, df2_⟩ := at3 Hd5.out
    have dn_ := ne_blk Hd5.out
    have dm_ := Ne.symm (a := Bd) dn_
    have dl_ := lt_blk Hd5.out
    obtain ⟨e0_, e1_, e2_, ef0_, ef1_, ef2_⟩ := at3 He5.out
    have en_ := ne_blk He5.out
    have em_ := Ne.symm (a := Be) en_
    have el_ := lt_blk He5.out
    go_wp2_with fail
    refine cl_gen ?_
    intro v5 hv5
    have Xc : v5.heap[Bc]? = some (.cells #[.int .u64 r, .int .u64 b, .int .u64 t] 25 (0, 0)) := by
      rw [hv5]
      (repeat' (first | (with_reducible exact Hc5.out) | (with_reducible exact Ha5.out) | (with_reducible exact Hd5.out) | (with_reducible exact He5.out) | (with_reducible exact heap_alloc_new _ _) | (with_reducible exact blk_new (by first | (simp; done) | omega)) | (with_reducible refine blk_drew ?_) | (with_reducible apply put1_0) | (with_reducible apply put2_0) | (with_reducible apply put2_1) | (with_reducible apply put3_0) | (with_reducible apply put3_1) | (with_reducible apply put3_2) | (with_reducible apply put4_0) | (with_reducible apply put4_1) | (with_reducible apply put4_2) | (with_reducible apply put4_3) | (with_reducible apply put5_0) | (with_reducible apply put5_1) | (with_reducible apply put5_2) | (with_reducible apply put5_3) | (with_reducible apply put5_4) | (with_reducible apply put6_0) | (with_reducible apply put6_1) | (with_reducible apply put6_2) | (with_reducible apply put6_3) | (with_reducible apply put6_4) | (with_reducible apply put6_5) | (with_reducible refine blk_else (by omega) ?_) | (with_reducible refine blk_old ?_)))
    have Xa : v5.heap[Ba]? = some (.cells #[.int .u64 r, .int .u64 b, .int .u64 t] 24 (0, 0)) := by
      rw [hv5]
      (repeat' (first | (with_reducible exact Hc5.out) | (with_reducible exact Ha5.out) | (with_reducible exact Hd5.out) | (with_reducible exact He5.out) | (with_reducible exact heap_alloc_new _ _) | (with_reducible exact blk_new (by first | (simp; done) | omega)) | (with_reducible refine blk_drew ?_) | (with_reducible apply put1_0) | (with_reducible apply put2_0) | (with_reducible apply put2_1) | (with_reducible apply put3_0) | (with_reducible apply put3_1) | (with_reducible apply put3_2) | (with_reducible apply put4_0) | (with_reducible apply put4_1) | (with_reducible apply put4_2) | (with_reducible apply put4_3) | (with_reducible apply put5_0) | (with_reducible apply put5_1) | (with_reducible apply put5_2) | (with_reducible apply put5_3) | (with_reducible apply put5_4) | (with_reducible apply put6_0) | (with_reducible apply put6_1) | (with_reducible apply put6_2) | (with_reducible apply put6_3) | (with_reducible apply put6_4) | (with_reducible apply put6_5) | (with_reducible refine blk_else (by omega) ?_) | (with_reducible refine blk_old ?_)))
    have Xd : v5.heap[Bd]? = some (.cells #[.int .u64 dr, .int .u64 db, .int .u64 dt] 25 (0, 0)) := by
      rw [hv5]
      (repeat' (first | (with_reducible exact Hc5.out) | (with_reducible exact Ha5.out) | (with_reducible exact Hd5.out) | (with_reducible exact He5.out) | (with_reducible exact heap_alloc_new _ _) | (with_reducible exact blk_new (by first | (simp; done) | omega)) | (with_reducible refine blk_drew ?_) | (with_reducible apply put1_0) | (with_reducible apply put2_0) | (with_reducible apply put2_1) | (with_reducible apply put3_0) | (with_reducible apply put3_1) | (with_reducible apply put3_2) | (with_reducible apply put4_0) | (with_reducible apply put4_1) | (with_reducible apply put4_2) | (with_reducible apply put4_3) | (with_reducible apply put5_0) | (with_reducible apply put5_1) | (with_reducible apply put5_2) | (with_reducible apply put5_3) | (with_reducible apply put5_4) | (with_reducible apply put6_0) | (with_reducible apply put6_1) | (with_reducible apply put6_2) | (with_reducible apply put6_3) | (with_reducible apply put6_4) | (with_reducible apply put6_5) | (with_reducible refine blk_else (by omega) ?_) | (with_reducible refine blk_old ?_)))
    have Xe : v5.heap[Be]? = some (.cells #[.int .u64 dr, .int .u64 db, .int .u64 dt] 24 (0, 0)) := by
      rw [hv5]
      (repeat' (first | (with_reducible exact Hc5.out) | (with_reducible exact Ha5.out) | (with_reducible exact Hd5.out) | (with_reducible exact He5.out) | (with_reducible exact heap_alloc_new _ _) | (with_reducible exact blk_new (by first | (simp; done) | omega)) | (with_reducible refine blk_drew ?_) | (with_reducible apply put1_0) | (with_reducible apply put2_0) | (with_reducible apply put2_1) | (with_reducible apply put3_0) | (with_reducible apply put3_1) | (with_reducible apply put3_2) | (with_reducible apply put4_0) | (with_reducible apply put4_1) | (with_reducible apply put4_2) | (with_reducible apply put4_3) | (with_reducible apply put5_0) | (with_reducible apply put5_1) | (with_reducible apply put5_2) | (with_reducible apply put5_3) | (with_reducible apply put5_4) | (with_reducible apply put6_0) | (with_reducible apply put6_1) | (with_reducible apply put6_2) | (with_reducible apply put6_3) | (with_reducible apply put6_4) | (with_reducible apply put6_5) | (with_reducible refine blk_else (by omega) ?_) | (with_reducible refine blk_old ?_)))
    have XB : Below w.heap.size w v5 := by
      rw [hv5]
      (repeat' (first | (with_reducible exact HB5.out) | exact Below.refl _ _ | refine below_drewN _ ?_ | refine Below.drew ?_ | refine Below.setCell ?_ (by first | (simp; done) | omega) _ | refine Below.alloc ?_ (by have := HB5.out.size; simp; omega) _))
    have Xf : v5.heap[w5.heap.size]? = some (.cells #[.int .u64 0, .int .u64 0, .int .u64 0] 25 (0, 0)) := by
      rw [hv5]
      (repeat' (first | (with_reducible exact Hc5.out) | (with_reducible exact Ha5.out) | (with_reducible exact Hd5.out) | (with_reducible exact He5.out) | (with_reducible exact heap_alloc_new _ _) | (with_reducible exact blk_new (by first | (simp; done) | omega)) | (with_reducible refine blk_drew ?_) | (with_reducible apply put1_0) | (with_reducible apply put2_0) | (with_reducible apply put2_1) | (with_reducible apply put3_0) | (with_reducible apply put3_1) | (with_reducible apply put3_2) | (with_reducible apply put4_0) | (with_reducible apply put4_1) | (with_reducible apply put4_2) | (with_reducible apply put4_3) | (with_reducible apply put5_0) | (with_reducible apply put5_1) | (with_reducible apply put5_2) | (with_reducible apply put5_3) | (with_reducible apply put5_4) | (with_reducible apply put6_0) | (with_reducible apply put6_1) | (with_reducible apply put6_2) | (with_reducible apply put6_3) | (with_reducible apply put6_4) | (with_reducible apply put6_5) | (with_reducible refine blk_else (by omega) ?_) | (with_reducible refine blk_old ?_)))
    obtain ⟨Bf, hBf⟩ : ∃ x, x = w5.heap.size := ⟨_, rfl⟩
    rw [← hBf] at Xf
    try rw [← hBf]
    have nfc : ¬ Bf = Bc := by have := lt_blk Hc5.out; omega
    have ncf : ¬ Bc = Bf := fun h => nfc h.symm
    have nfa : ¬ Bf = Ba := by have := lt_blk Ha5.out; omega
    have naf : ¬ Ba = Bf := fun h => nfa h.symm
    have nfd : ¬ Bf = Bd := by have := lt_blk Hd5.out; omega
    have ndf : ¬ Bd = Bf := fun h => nfd h.symm
    have nfe : ¬ Bf = Be := by have := lt_blk He5.out; omega
    have nef : ¬ Be = Bf := fun h => nfe h.symm
    have lef : w.heap.size ≤ Bf := by have := HB5.out.size; omega
    clear hBf
    clear c0_ c1_ c2_ cf0_ cf1_ cf2_ cn_ cm_ cl_ a0_ a1_ a2_ af0_ af1_ af2_ an_ am_ al_ d0_ d1_ d2_ df0_ df1_ df2_ dn_ dm_ dl_ e0_ e1_ e2_ ef0_ ef1_ ef2_ en_ em_ el_
    clear hv5 Hc5 Ha5 Hd5 He5 HB5
    refine (CF.out _).mono ?_
    rintro e w6 ⟨rfl, bb⟩
    have Hc6 := Lib.hid (blk_call bb Xc)
    have Ha6 := Lib.hid (blk_call bb Xa)
    have Hd6 := Lib.hid (blk_call bb Xd)
    have He6 := Lib.hid (blk_call bb Xe)
    have Hf6 := Lib.hid (blk_call bb Xf)
    have HB6 := Lib.hid (bel_onto XB bb XB.size)
    clear Xc Xa Xd Xe Xf XB bb
    obtain ⟨c0_, c1_, c2_, cf0_, cf1_, cf2_⟩ := at3 Hc6.out
    have cn_ := ne_blk Hc6.out
    have cm_ := Ne.symm (a := Bc) cn_
    have cl_ := lt_blk Hc6.out
    obtain ⟨a0_, a1_, a2_, af0_, af1_, af2_⟩ := at3 Ha6.out
    have an_ := ne_blk Ha6.out
    have am_ := Ne.symm (a := Ba) an_
    have al_ := lt_blk Ha6.out
    obtain ⟨d0_, d1_, d2_, df0_, df1_, df2_⟩ := at3 Hd6.out
    have dn_ := ne_blk Hd6.out
    have dm_ := Ne.symm (a := Bd) dn_
    have dl_ := lt_blk Hd6.out
    obtain ⟨e0_, e1_, e2_, ef0_, ef1_, ef2_⟩ := at3 He6.out
    have en_ := ne_blk He6.out
    have em_ := Ne.symm (a := Be) en_
    have el_ := lt_blk He6.out
    obtain ⟨f0_, f1_, f2_, ff0_, ff1_, ff2_⟩ := at3 Hf6.out
    have fn_ := ne_blk Hf6.out
    have fm_ := Ne.symm (a := Bf) fn_
    have fl_ := lt_blk Hf6.out
    go_wp2
    have S0 := Lib.hid (fun v (hv : Below w6.heap.size w6 v) => (⟨cell_blk (blk_call hv Ha6.out) 0 rfl, cell_blk (blk_call hv Ha6.out) 1 rfl, cell_blk (blk_call hv Ha6.out) 2 rfl, cell_blk (blk_call hv Hc6.out) 0 rfl, cell_blk (blk_call hv Hc6.out) 1 rfl, cell_blk (blk_call hv Hc6.out) 2 rfl, cell_blk (blk_call hv Hd6.out) 0 rfl, cell_blk (blk_call hv Hd6.out) 1 rfl, cell_blk (blk_call hv Hd6.out) 2 rfl, cell_blk (blk_call hv He6.out) 0 rfl, cell_blk (blk_call hv He6.out) 1 rfl, cell_blk (blk_call hv He6.out) 2 rfl, bel_onto HB6.out hv HB6.out.size⟩ : v.cell? ⟨Ba, 0, none⟩ = some (.int .u64 r) ∧ v.cell? ⟨Ba, 1, none⟩ = some (.int .u64 b) ∧ v.cell? ⟨Ba, 2, none⟩ = some (.int .u64 t) ∧ v.cell? ⟨Bc, 0, none⟩ = some (.int .u64 r) ∧ v.cell? ⟨Bc, 1, none⟩ = some (.int .u64 b) ∧ v.cell? ⟨Bc, 2, none⟩ = some (.int .u64 t) ∧ v.cell? ⟨Bd, 0, none⟩ = some (.int .u64 dr) ∧ v.cell? ⟨Bd, 1, none⟩ = some (.int .u64 db) ∧ v.cell? ⟨Bd, 2, none⟩ = some (.int .u64 dt) ∧ v.cell? ⟨Be, 0, none⟩ = some (.int .u64 dr) ∧ v.cell? ⟨Be, 1, none⟩ = some (.int .u64 db) ∧ v.cell? ⟨Be, 2, none⟩ = some (.int .u64 dt) ∧ Below w.heap.size w v))
    go_region_held3 (fun v => v.cell? ⟨Ba, 0, none⟩ = some (.int .u64 r) ∧ v.cell? ⟨Ba, 1, none⟩ = some (.int .u64 b) ∧ v.cell? ⟨Ba, 2, none⟩ = some (.int .u64 t) ∧ v.cell? ⟨Bc, 0, none⟩ = some (.int .u64 r) ∧ v.cell? ⟨Bc, 1, none⟩ = some (.int .u64 b) ∧ v.cell? ⟨Bc, 2, none⟩ = some (.int .u64 t) ∧ v.cell? ⟨Bd, 0, none⟩ = some (.int .u64 dr) ∧ v.cell? ⟨Bd, 1, none⟩ = some (.int .u64 db) ∧ v.cell? ⟨Bd, 2, none⟩ = some (.int .u64 dt) ∧ v.cell? ⟨Be, 0, none⟩ = some (.int .u64 dr) ∧ v.cell? ⟨Be, 1, none⟩ = some (.int .u64 db) ∧ v.cell? ⟨Be, 2, none⟩ = some (.int .u64 dt) ∧ Below w.heap.size w v)
      (exact S0.out _ (by repeat' (first | (with_reducible exact Below.refl _ _) | (with_reducible exact (Below.refl _ _).drew) | (with_reducible refine bel_call (by with_reducible assumption) ?_ (Nat.le_refl _)))))
      (first
        | (go_at_call 23; with_reducible refine (CK.out _).mono ?_; rintro e u0 ⟨rfl, h0_⟩)
        | (go_at_call 22; with_reducible refine (RC.out _).mono ?_; rintro e u1 ⟨rfl, h1_⟩)
        | (go_at_call 24; with_reducible refine (TI.out _).mono ?_; rintro e u2 ⟨rfl, h2_⟩)
        | (go_at_call 25; with_reducible refine (RI.out _).mono ?_; rintro e u3 ⟨rfl, h3_⟩)
        | (go_at_call 26; with_reducible refine (LV.out _).mono ?_; rintro e u4 ⟨rfl, h4_⟩)
        | fail)
    go_wp2
    go_ret
    refine ⟨rfl, ?_⟩
    (repeat' (first | (with_reducible exact HB6.out) | (with_reducible refine below_drewN _ ?_) | (with_reducible refine Below.drew ?_) | (with_reducible refine bel_call (by with_reducible assumption) ?_ (by have := HB6.out.size; omega)) | (refine Below.alloc ?_ (by have := HB6.out.size; simp; omega) _)))
end Go.Proofs.Ytgmdhanbeafagaa
