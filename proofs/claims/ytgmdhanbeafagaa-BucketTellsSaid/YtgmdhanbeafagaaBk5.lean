/-
  The law on who waits, without the document's answer: true for any bucket and any number of tokens. No condition.
-/
import Derived.Test.YtgmdhanbeafagaaBk4
namespace Go.Proofs.Ytgmdhanbeafagaa
set_option linter.unusedVariables false
set_option linter.unusedSimpArgs false
open Go.ChangeShapes Go.WideShapes Go.ChangeAt Go.RowKit
attribute [local go_sem] alloc_drewN setCell_drewN

theorem sub0_bd' {a b : Int} (h0 : 0 ≤ a) (h1 : a ≤ 18446744073709551615) (g0 : 0 ≤ b) : 0 ≤ sub0 a b ∧ sub0 a b ≤ 18446744073709551615 := by unfold sub0; split <;> omega
theorem up_ge {a b : Int} (h0 : 0 ≤ a) (hb : 0 < b) : a ≤ b * up a b := by
  unfold up
  split
  · subst_vars; simp
  · rw [if_neg (by omega)]
    have h1 := Int.mul_ediv_add_emod (a - 1) b
    have h2 := Int.emod_lt_of_pos (a - 1) hb
    rw [Int.mul_add]
    omega
theorem up_lt {a b : Int} (h0 : 0 ≤ a) (hb : 0 < b) (hu : 0 < up a b) : b * (up a b - 1) < a := by
  unfold up at hu ⊢
  split at hu
  · omega
  · rename_i h
    rw [if_neg h]
    rw [if_neg (by omega)] at hu ⊢
    have h1 := Int.mul_ediv_add_emod (a - 1) b
    have h2 := Int.emod_nonneg (a - 1) (b := b) (by omega)
    rw [show (a - 1) / b + 1 - 1 = (a - 1) / b by omega]
    omega
theorem up_wd {a b : Int} (h0 : 0 ≤ a) (h1 : a ≤ 18446744073709551615) (hb : 0 < b) : 0 ≤ up a b ∧ up a b ≤ 18446744073709551615 ∧ (up a b = 0 ↔ a = 0) := by
  unfold up
  split
  · subst_vars; exact ⟨by decide, by decide, by simp⟩
  · rw [if_neg (by omega)]
    have := Int.ediv_nonneg (show 0 ≤ a - 1 by omega) (Int.le_of_lt hb)
    have := Int.ediv_le_self b (a := a - 1) (by omega)
    refine ⟨by omega, by omega, by omega⟩
set_option maxRecDepth 100000 in
set_option maxHeartbeats 4000000 in
theorem walk_bucketWaits (r : Int) (r0 : 0 ≤ r) (r1 : r ≤ 18446744073709551615) (b : Int) (b0 : 0 ≤ b) (b1 : b ≤ 18446744073709551615) (t : Int) (t0 : 0 ≤ t) (t1 : t ≤ 18446744073709551615) (n : Int) (n0 : 0 ≤ n) (n1 : n ≤ 18446744073709551615) (w : World) :
    Calls Try.prog 6 #[.agg #[.int .u64 r, .int .u64 b, .int .u64 t], .int .u64 n] w fun e w' => e = .returned (.bool true) ∧ Below w.heap.size w w' := by
  have hs : BK.wd ⟨r, b, t⟩ := ⟨⟨r0, r1⟩, ⟨b0, b1⟩, t0, t1⟩
  have CM := Lib.hid (fun W => (bk_rcheck r b t W).mono fun e w' h => (⟨h.1, h.2 ▸ (Below.refl _ W).alloc (Nat.le_refl _) _⟩ : _ ∧ Below W.heap.size W w'))
  have LV := Lib.hid (fun W => lives20 W)
  have WT := Lib.hid (fun W => bk_wait ⟨r, b, t⟩ hs n n0 n1 W)
  by_cases hok : BK.ok ⟨r, b, t⟩
  · rw [bck_ok.2 hok] at CM
    by_cases hb : n ≤ b
    · obtain ⟨k1, k2, k3⟩ := id hok
      dsimp only at k1 k2 k3
      rw [show BK.wait ⟨r, b, t⟩ n = (up (sub0 n t) r, true) from if_pos ⟨hok, hb⟩] at WT
      have q := sub0_bd' (a := n) (b := t) n0 n1 t0
      obtain ⟨u0, u1, u2⟩ := up_wd q.1 q.2 (show 0 < r by omega)
      have ug := up_ge q.1 (show 0 < r by omega)
      have ul := up_lt q.1 (show 0 < r by omega)
      have sb : sub0 n t = if n < t then 0 else n - t := rfl
      generalize up (sub0 n t) r = c at *
      have A1 := Lib.hid (fun W => bk_tick ⟨r, b, t⟩ hs c u0 u1 W)
      have TW := tick_wd hs u0
      rw [show BK.tick ⟨r, b, t⟩ c = ⟨r, b, min (t + r * c) b⟩ from if_pos hok] at A1 TW
      have B1 := Lib.hid (fun W => bk_take ⟨r, b, min (t + r * c) b⟩ TW n n0 n1 W)
      have hge : ¬ min (t + r * c) b < n := by split at sb <;> omega
      rw [show BK.take ⟨r, b, min (t + r * c) b⟩ n = (⟨r, b, min (t + r * c) b - n⟩, true) from by unfold BK.take; rw [if_pos ⟨k1, k2, by show min _ _ ≤ b; omega⟩]; exact if_neg hge] at B1
      simp only [vw] at A1 B1 WT
      generalize min (t + r * c) b = m at *
      by_cases hc : c = 0
      · subst hc
        have hn : n ≤ t := by have := u2.1 rfl; split at sb <;> omega
        have hd1 : decide (b < n) = false := decide_eq_false (by omega)
        have hd2 : decide (n ≤ t) = true := decide_eq_true hn
        clear hs hok q u2 ug ul sb TW hge u0 u1 k1 k2 k3 hb hn
        go_enter Try.func6, Try.ntmps6
        go_wp2_with fail
        refine cl_gen ?_
        intro v0 hv0
        have XB : Below w.heap.size w v0 := by
          rw [hv0]
          (repeat' (first | exact Below.refl _ _ | (with_reducible assumption) | refine below_drewN _ ?_ | refine Below.drew ?_ | refine Below.setCell ?_ (by simp) _ | refine Below.alloc ?_ (by simp; try omega) _))
        have Xa : v0.heap[w.heap.size]? = some (.cells #[.int .u64 r, .int .u64 b, .int .u64 t] 24 (0, 0)) := by
          rw [hv0]
          (repeat' (first | (with_reducible exact heap_alloc_new _ _) | (with_reducible exact blk_new (by first | (simp; done) | omega)) | (with_reducible refine blk_drew ?_) | (with_reducible apply put1_0) | (with_reducible apply put2_0) | (with_reducible apply put2_1) | (with_reducible apply put3_0) | (with_reducible apply put3_1) | (with_reducible apply put3_2) | (with_reducible apply put4_0) | (with_reducible apply put4_1) | (with_reducible apply put4_2) | (with_reducible apply put4_3) | (with_reducible apply put5_0) | (with_reducible apply put5_1) | (with_reducible apply put5_2) | (with_reducible apply put5_3) | (with_reducible apply put5_4) | (with_reducible apply put6_0) | (with_reducible apply put6_1) | (with_reducible apply put6_2) | (with_reducible apply put6_3) | (with_reducible apply put6_4) | (with_reducible apply put6_5) | (with_reducible refine blk_else (by omega) ?_) | (with_reducible refine blk_old ?_)))
        have Xc : v0.heap[w.heap.size + 1]? = some (.cells #[.int .u64 r, .int .u64 b, .int .u64 t] 25 (0, 0)) := by
          rw [hv0]
          (repeat' (first | (with_reducible exact heap_alloc_new _ _) | (with_reducible exact blk_new (by first | (simp; done) | omega)) | (with_reducible refine blk_drew ?_) | (with_reducible apply put1_0) | (with_reducible apply put2_0) | (with_reducible apply put2_1) | (with_reducible apply put3_0) | (with_reducible apply put3_1) | (with_reducible apply put3_2) | (with_reducible apply put4_0) | (with_reducible apply put4_1) | (with_reducible apply put4_2) | (with_reducible apply put4_3) | (with_reducible apply put5_0) | (with_reducible apply put5_1) | (with_reducible apply put5_2) | (with_reducible apply put5_3) | (with_reducible apply put5_4) | (with_reducible apply put6_0) | (with_reducible apply put6_1) | (with_reducible apply put6_2) | (with_reducible apply put6_3) | (with_reducible apply put6_4) | (with_reducible apply put6_5) | (with_reducible refine blk_else (by omega) ?_) | (with_reducible refine blk_old ?_)))
        obtain ⟨Bc, hBc⟩ : ∃ x, x = w.heap.size + 1 := ⟨_, rfl⟩
        rw [← hBc] at Xc
        try rw [← hBc]
        have lec : w.heap.size ≤ Bc := by omega
        obtain ⟨Ba, hBa⟩ : ∃ x, x = w.heap.size := ⟨_, rfl⟩
        rw [← hBa] at Xa
        try rw [← hBa]
        have nac : ¬ Ba = Bc := by omega
        have nca : ¬ Bc = Ba := fun h => nac h.symm
        have lea : w.heap.size ≤ Ba := by omega
        clear hBa hBc
        clear hv0
        refine (WT.out _).mono ?_
        rintro e w1 ⟨rfl, bb⟩
        have Hc1 := Lib.hid (blk_call bb Xc)
        have Ha1 := Lib.hid (blk_call bb Xa)
        have HB1 := Lib.hid (bel_onto XB bb XB.size)
        clear Xc Xa XB bb
        obtain ⟨c0_, c1_, c2_, cf0_, cf1_, cf2_⟩ := at3 Hc1.out
        have cn_ := ne_blk Hc1.out
        have cm_ := Ne.symm (a := Bc) cn_
        have cl_ := lt_blk Hc1.out
        obtain ⟨a0_, a1_, a2_, af0_, af1_, af2_⟩ := at3 Ha1.out
        have an_ := ne_blk Ha1.out
        have am_ := Ne.symm (a := Ba) an_
        have al_ := lt_blk Ha1.out
        go_wp2_with fail
        refine cl_gen ?_
        intro v1 hv1
        have Xc : v1.heap[Bc]? = some (.cells #[.int .u64 r, .int .u64 b, .int .u64 t] 25 (0, 0)) := by
          rw [hv1]
          (repeat' (first | (with_reducible exact Hc1.out) | (with_reducible exact Ha1.out) | (with_reducible exact heap_alloc_new _ _) | (with_reducible exact blk_new (by first | (simp; done) | omega)) | (with_reducible refine blk_drew ?_) | (with_reducible apply put1_0) | (with_reducible apply put2_0) | (with_reducible apply put2_1) | (with_reducible apply put3_0) | (with_reducible apply put3_1) | (with_reducible apply put3_2) | (with_reducible apply put4_0) | (with_reducible apply put4_1) | (with_reducible apply put4_2) | (with_reducible apply put4_3) | (with_reducible apply put5_0) | (with_reducible apply put5_1) | (with_reducible apply put5_2) | (with_reducible apply put5_3) | (with_reducible apply put5_4) | (with_reducible apply put6_0) | (with_reducible apply put6_1) | (with_reducible apply put6_2) | (with_reducible apply put6_3) | (with_reducible apply put6_4) | (with_reducible apply put6_5) | (with_reducible refine blk_else (by omega) ?_) | (with_reducible refine blk_old ?_)))
        have Xa : v1.heap[Ba]? = some (.cells #[.int .u64 r, .int .u64 b, .int .u64 t] 24 (0, 0)) := by
          rw [hv1]
          (repeat' (first | (with_reducible exact Hc1.out) | (with_reducible exact Ha1.out) | (with_reducible exact heap_alloc_new _ _) | (with_reducible exact blk_new (by first | (simp; done) | omega)) | (with_reducible refine blk_drew ?_) | (with_reducible apply put1_0) | (with_reducible apply put2_0) | (with_reducible apply put2_1) | (with_reducible apply put3_0) | (with_reducible apply put3_1) | (with_reducible apply put3_2) | (with_reducible apply put4_0) | (with_reducible apply put4_1) | (with_reducible apply put4_2) | (with_reducible apply put4_3) | (with_reducible apply put5_0) | (with_reducible apply put5_1) | (with_reducible apply put5_2) | (with_reducible apply put5_3) | (with_reducible apply put5_4) | (with_reducible apply put6_0) | (with_reducible apply put6_1) | (with_reducible apply put6_2) | (with_reducible apply put6_3) | (with_reducible apply put6_4) | (with_reducible apply put6_5) | (with_reducible refine blk_else (by omega) ?_) | (with_reducible refine blk_old ?_)))
        have XB : Below w.heap.size w v1 := by
          rw [hv1]
          (repeat' (first | (with_reducible exact HB1.out) | exact Below.refl _ _ | refine below_drewN _ ?_ | refine Below.drew ?_ | refine Below.setCell ?_ (by first | (simp; done) | omega) _ | refine Below.alloc ?_ (by have := HB1.out.size; simp; omega) _))
        clear c0_ c1_ c2_ cf0_ cf1_ cf2_ cn_ cm_ cl_ a0_ a1_ a2_ af0_ af1_ af2_ an_ am_ al_
        clear hv1 Hc1 Ha1 HB1
        refine (CM.out _).mono ?_
        rintro e w2 ⟨rfl, bb⟩
        have Hc2 := Lib.hid (blk_call bb Xc)
        have Ha2 := Lib.hid (blk_call bb Xa)
        have HB2 := Lib.hid (bel_onto XB bb XB.size)
        clear Xc Xa XB bb
        obtain ⟨c0_, c1_, c2_, cf0_, cf1_, cf2_⟩ := at3 Hc2.out
        have cn_ := ne_blk Hc2.out
        have cm_ := Ne.symm (a := Bc) cn_
        have cl_ := lt_blk Hc2.out
        obtain ⟨a0_, a1_, a2_, af0_, af1_, af2_⟩ := at3 Ha2.out
        have an_ := ne_blk Ha2.out
        have am_ := Ne.symm (a := Ba) an_
        have al_ := lt_blk Ha2.out
        go_wp2_with fail
        refine cl_gen ?_
        intro v2 hv2
        have Xc : v2.heap[Bc]? = some (.cells #[.int .u64 r, .int .u64 b, .int .u64 t] 25 (0, 0)) := by
          rw [hv2]
          (repeat' (first | (with_reducible exact Hc2.out) | (with_reducible exact Ha2.out) | (with_reducible exact heap_alloc_new _ _) | (with_reducible exact blk_new (by first | (simp; done) | omega)) | (with_reducible refine blk_drew ?_) | (with_reducible apply put1_0) | (with_reducible apply put2_0) | (with_reducible apply put2_1) | (with_reducible apply put3_0) | (with_reducible apply put3_1) | (with_reducible apply put3_2) | (with_reducible apply put4_0) | (with_reducible apply put4_1) | (with_reducible apply put4_2) | (with_reducible apply put4_3) | (with_reducible apply put5_0) | (with_reducible apply put5_1) | (with_reducible apply put5_2) | (with_reducible apply put5_3) | (with_reducible apply put5_4) | (with_reducible apply put6_0) | (with_reducible apply put6_1) | (with_reducible apply put6_2) | (with_reducible apply put6_3) | (with_reducible apply put6_4) | (with_reducible apply put6_5) | (with_reducible refine blk_else (by omega) ?_) | (with_reducible refine blk_old ?_)))
        have Xa : v2.heap[Ba]? = some (.cells #[.int .u64 r, .int .u64 b, .int .u64 t] 24 (0, 0)) := by
          rw [hv2]
          (repeat' (first | (with_reducible exact Hc2.out) | (with_reducible exact Ha2.out) | (with_reducible exact heap_alloc_new _ _) | (with_reducible exact blk_new (by first | (simp; done) | omega)) | (with_reducible refine blk_drew ?_) | (with_reducible apply put1_0) | (with_reducible apply put2_0) | (with_reducible apply put2_1) | (with_reducible apply put3_0) | (with_reducible apply put3_1) | (with_reducible apply put3_2) | (with_reducible apply put4_0) | (with_reducible apply put4_1) | (with_reducible apply put4_2) | (with_reducible apply put4_3) | (with_reducible apply put5_0) | (with_reducible apply put5_1) | (with_reducible apply put5_2) | (with_reducible apply put5_3) | (with_reducible apply put5_4) | (with_reducible apply put6_0) | (with_reducible apply put6_1) | (with_reducible apply put6_2) | (with_reducible apply put6_3) | (with_reducible apply put6_4) | (with_reducible apply put6_5) | (with_reducible refine blk_else (by omega) ?_) | (with_reducible refine blk_old ?_)))
        have XB : Below w.heap.size w v2 := by
          rw [hv2]
          (repeat' (first | (with_reducible exact HB2.out) | exact Below.refl _ _ | refine below_drewN _ ?_ | refine Below.drew ?_ | refine Below.setCell ?_ (by first | (simp; done) | omega) _ | refine Below.alloc ?_ (by have := HB2.out.size; simp; omega) _))
        clear c0_ c1_ c2_ cf0_ cf1_ cf2_ cn_ cm_ cl_ a0_ a1_ a2_ af0_ af1_ af2_ an_ am_ al_
        clear hv2 Hc2 Ha2 HB2
        refine (A1.out _).mono ?_
        rintro e w3 ⟨rfl, bb⟩
        have Hc3 := Lib.hid (blk_call bb Xc)
        have Ha3 := Lib.hid (blk_call bb Xa)
        have HB3 := Lib.hid (bel_onto XB bb XB.size)
        clear Xc Xa XB bb
        obtain ⟨c0_, c1_, c2_, cf0_, cf1_, cf2_⟩ := at3 Hc3.out
        have cn_ := ne_blk Hc3.out
        have cm_ := Ne.symm (a := Bc) cn_
        have cl_ := lt_blk Hc3.out
        obtain ⟨a0_, a1_, a2_, af0_, af1_, af2_⟩ := at3 Ha3.out
        have an_ := ne_blk Ha3.out
        have am_ := Ne.symm (a := Ba) an_
        have al_ := lt_blk Ha3.out
        go_wp2_with fail
        refine cl_gen ?_
        intro v3 hv3
        have Xc : v3.heap[Bc]? = some (.cells #[.int .u64 r, .int .u64 b, .int .u64 t] 25 (0, 0)) := by
          rw [hv3]
          (repeat' (first | (with_reducible exact Hc3.out) | (with_reducible exact Ha3.out) | (with_reducible exact heap_alloc_new _ _) | (with_reducible exact blk_new (by first | (simp; done) | omega)) | (with_reducible refine blk_drew ?_) | (with_reducible apply put1_0) | (with_reducible apply put2_0) | (with_reducible apply put2_1) | (with_reducible apply put3_0) | (with_reducible apply put3_1) | (with_reducible apply put3_2) | (with_reducible apply put4_0) | (with_reducible apply put4_1) | (with_reducible apply put4_2) | (with_reducible apply put4_3) | (with_reducible apply put5_0) | (with_reducible apply put5_1) | (with_reducible apply put5_2) | (with_reducible apply put5_3) | (with_reducible apply put5_4) | (with_reducible apply put6_0) | (with_reducible apply put6_1) | (with_reducible apply put6_2) | (with_reducible apply put6_3) | (with_reducible apply put6_4) | (with_reducible apply put6_5) | (with_reducible refine blk_else (by omega) ?_) | (with_reducible refine blk_old ?_)))
        have Xa : v3.heap[Ba]? = some (.cells #[.int .u64 r, .int .u64 b, .int .u64 t] 24 (0, 0)) := by
          rw [hv3]
          (repeat' (first | (with_reducible exact Hc3.out) | (with_reducible exact Ha3.out) | (with_reducible exact heap_alloc_new _ _) | (with_reducible exact blk_new (by first | (simp; done) | omega)) | (with_reducible refine blk_drew ?_) | (with_reducible apply put1_0) | (with_reducible apply put2_0) | (with_reducible apply put2_1) | (with_reducible apply put3_0) | (with_reducible apply put3_1) | (with_reducible apply put3_2) | (with_reducible apply put4_0) | (with_reducible apply put4_1) | (with_reducible apply put4_2) | (with_reducible apply put4_3) | (with_reducible apply put5_0) | (with_reducible apply put5_1) | (with_reducible apply put5_2) | (with_reducible apply put5_3) | (with_reducible apply put5_4) | (with_reducible apply put6_0) | (with_reducible apply put6_1) | (with_reducible apply put6_2) | (with_reducible apply put6_3) | (with_reducible apply put6_4) | (with_reducible apply put6_5) | (with_reducible refine blk_else (by omega) ?_) | (with_reducible refine blk_old ?_)))
        have XB : Below w.heap.size w v3 := by
          rw [hv3]
          (repeat' (first | (with_reducible exact HB3.out) | exact Below.refl _ _ | refine below_drewN _ ?_ | refine Below.drew ?_ | refine Below.setCell ?_ (by first | (simp; done) | omega) _ | refine Below.alloc ?_ (by have := HB3.out.size; simp; omega) _))
        clear c0_ c1_ c2_ cf0_ cf1_ cf2_ cn_ cm_ cl_ a0_ a1_ a2_ af0_ af1_ af2_ an_ am_ al_
        clear hv3 Hc3 Ha3 HB3
        refine (B1.out _).mono ?_
        rintro e w4 ⟨rfl, bb⟩
        have Hc4 := Lib.hid (blk_call bb Xc)
        have Ha4 := Lib.hid (blk_call bb Xa)
        have HB4 := Lib.hid (bel_onto XB bb XB.size)
        clear Xc Xa XB bb
        obtain ⟨c0_, c1_, c2_, cf0_, cf1_, cf2_⟩ := at3 Hc4.out
        have cn_ := ne_blk Hc4.out
        have cm_ := Ne.symm (a := Bc) cn_
        have cl_ := lt_blk Hc4.out
        obtain ⟨a0_, a1_, a2_, af0_, af1_, af2_⟩ := at3 Ha4.out
        have an_ := ne_blk Ha4.out
        have am_ := Ne.symm (a := Ba) an_
        have al_ := lt_blk Ha4.out
        go_wp2_with fail
        refine cl_gen ?_
        intro v4 hv4
        have Xc : v4.heap[Bc]? = some (.cells #[.int .u64 r, .int .u64 b, .int .u64 t] 25 (0, 0)) := by
          rw [hv4]
          (repeat' (first | (with_reducible exact Hc4.out) | (with_reducible exact Ha4.out) | (with_reducible exact heap_alloc_new _ _) | (with_reducible exact blk_new (by first | (simp; done) | omega)) | (with_reducible refine blk_drew ?_) | (with_reducible apply put1_0) | (with_reducible apply put2_0) | (with_reducible apply put2_1) | (with_reducible apply put3_0) | (with_reducible apply put3_1) | (with_reducible apply put3_2) | (with_reducible apply put4_0) | (with_reducible apply put4_1) | (with_reducible apply put4_2) | (with_reducible apply put4_3) | (with_reducible apply put5_0) | (with_reducible apply put5_1) | (with_reducible apply put5_2) | (with_reducible apply put5_3) | (with_reducible apply put5_4) | (with_reducible apply put6_0) | (with_reducible apply put6_1) | (with_reducible apply put6_2) | (with_reducible apply put6_3) | (with_reducible apply put6_4) | (with_reducible apply put6_5) | (with_reducible refine blk_else (by omega) ?_) | (with_reducible refine blk_old ?_)))
        have Xa : v4.heap[Ba]? = some (.cells #[.int .u64 r, .int .u64 b, .int .u64 t] 24 (0, 0)) := by
          rw [hv4]
          (repeat' (first | (with_reducible exact Hc4.out) | (with_reducible exact Ha4.out) | (with_reducible exact heap_alloc_new _ _) | (with_reducible exact blk_new (by first | (simp; done) | omega)) | (with_reducible refine blk_drew ?_) | (with_reducible apply put1_0) | (with_reducible apply put2_0) | (with_reducible apply put2_1) | (with_reducible apply put3_0) | (with_reducible apply put3_1) | (with_reducible apply put3_2) | (with_reducible apply put4_0) | (with_reducible apply put4_1) | (with_reducible apply put4_2) | (with_reducible apply put4_3) | (with_reducible apply put5_0) | (with_reducible apply put5_1) | (with_reducible apply put5_2) | (with_reducible apply put5_3) | (with_reducible apply put5_4) | (with_reducible apply put6_0) | (with_reducible apply put6_1) | (with_reducible apply put6_2) | (with_reducible apply put6_3) | (with_reducible apply put6_4) | (with_reducible apply put6_5) | (with_reducible refine blk_else (by omega) ?_) | (with_reducible refine blk_old ?_)))
        have XB : Below w.heap.size w v4 := by
          rw [hv4]
          (repeat' (first | (with_reducible exact HB4.out) | exact Below.refl _ _ | refine below_drewN _ ?_ | refine Below.drew ?_ | refine Below.setCell ?_ (by first | (simp; done) | omega) _ | refine Below.alloc ?_ (by have := HB4.out.size; simp; omega) _))
        clear c0_ c1_ c2_ cf0_ cf1_ cf2_ cn_ cm_ cl_ a0_ a1_ a2_ af0_ af1_ af2_ an_ am_ al_
        clear hv4 Hc4 Ha4 HB4
        refine (LV.out _).mono ?_
        rintro e w5 ⟨rfl, bb⟩
        have Hc5 := Lib.hid (blk_call bb Xc)
        have Ha5 := Lib.hid (blk_call bb Xa)
        have HB5 := Lib.hid (bel_onto XB bb XB.size)
        clear Xc Xa XB bb
        obtain ⟨c0_, c1_, c2_, cf0_, cf1_, cf2_⟩ := at3 Hc5.out
        have cn_ := ne_blk Hc5.out
        have cm_ := Ne.symm (a := Bc) cn_
        have cl_ := lt_blk Hc5.out
        obtain ⟨a0_, a1_, a2_, af0_, af1_, af2_⟩ := at3 Ha5.out
        have an_ := ne_blk Ha5.out
        have am_ := Ne.symm (a := Ba) an_
        have al_ := lt_blk Ha5.out
        clear c0_ c1_ c2_ cf0_ cf1_ cf2_ cn_ cm_ cl_ a0_ a1_ a2_ af0_ af1_ af2_ an_ am_ al_
        go_wp2
        go_ret
        exact ⟨rfl, HB5.out⟩
      · have hp : 0 < c := by omega
        have hn : t < n := by
          have := u2.2
          split at sb
          · exfalso; exact hc (u2.2 sb)
          · by_cases h : n = t
            · exfalso; exact hc (u2.2 (by omega))
            · omega
        have g : (c == 0) = false := by simp [hc]
        have hw : IntKind.u64.wrap (c - 1) = c - 1 := by rw [IntKind.wrap_u64]; omega
        have A2 := Lib.hid (fun W => bk_tick ⟨r, b, t⟩ hs (c - 1) (by omega) (by omega) W)
        have TW2 := tick_wd hs (x := c - 1) (by omega)
        rw [show BK.tick ⟨r, b, t⟩ (c - 1) = ⟨r, b, min (t + r * (c - 1)) b⟩ from if_pos hok] at A2 TW2
        have B2 := Lib.hid (fun W => bk_take ⟨r, b, min (t + r * (c - 1)) b⟩ TW2 n n0 n1 W)
        have hlt : min (t + r * (c - 1)) b < n := by have := ul hp; split at sb <;> omega
        rw [show BK.take ⟨r, b, min (t + r * (c - 1)) b⟩ n = (⟨r, b, min (t + r * (c - 1)) b⟩, false) from by unfold BK.take; rw [if_pos ⟨k1, k2, by show min _ _ ≤ b; omega⟩]; exact if_pos hlt] at B2
        simp only [vw] at A2 B2
        generalize min (t + r * (c - 1)) b = m2 at *
        have hd1 : decide (b < n) = false := decide_eq_false (by omega)
        have hd2 : decide (n ≤ t) = false := decide_eq_false (by omega)
        clear hs hok q u2 ug ul sb TW TW2 hge hlt k1 k2 k3 hb hc hn
        go_enter Try.func6, Try.ntmps6
        go_wp2_with fail
        refine cl_gen ?_
        intro v0 hv0
        have XB : Below w.heap.size w v0 := by
          rw [hv0]
          (repeat' (first | exact Below.refl _ _ | (with_reducible assumption) | refine below_drewN _ ?_ | refine Below.drew ?_ | refine Below.setCell ?_ (by simp) _ | refine Below.alloc ?_ (by simp; try omega) _))
        have Xa : v0.heap[w.heap.size]? = some (.cells #[.int .u64 r, .int .u64 b, .int .u64 t] 24 (0, 0)) := by
          rw [hv0]
          (repeat' (first | (with_reducible exact heap_alloc_new _ _) | (with_reducible exact blk_new (by first | (simp; done) | omega)) | (with_reducible refine blk_drew ?_) | (with_reducible apply put1_0) | (with_reducible apply put2_0) | (with_reducible apply put2_1) | (with_reducible apply put3_0) | (with_reducible apply put3_1) | (with_reducible apply put3_2) | (with_reducible apply put4_0) | (with_reducible apply put4_1) | (with_reducible apply put4_2) | (with_reducible apply put4_3) | (with_reducible apply put5_0) | (with_reducible apply put5_1) | (with_reducible apply put5_2) | (with_reducible apply put5_3) | (with_reducible apply put5_4) | (with_reducible apply put6_0) | (with_reducible apply put6_1) | (with_reducible apply put6_2) | (with_reducible apply put6_3) | (with_reducible apply put6_4) | (with_reducible apply put6_5) | (with_reducible refine blk_else (by omega) ?_) | (with_reducible refine blk_old ?_)))
        have Xc : v0.heap[w.heap.size + 1]? = some (.cells #[.int .u64 r, .int .u64 b, .int .u64 t] 25 (0, 0)) := by
          rw [hv0]
          (repeat' (first | (with_reducible exact heap_alloc_new _ _) | (with_reducible exact blk_new (by first | (simp; done) | omega)) | (with_reducible refine blk_drew ?_) | (with_reducible apply put1_0) | (with_reducible apply put2_0) | (with_reducible apply put2_1) | (with_reducible apply put3_0) | (with_reducible apply put3_1) | (with_reducible apply put3_2) | (with_reducible apply put4_0) | (with_reducible apply put4_1) | (with_reducible apply put4_2) | (with_reducible apply put4_3) | (with_reducible apply put5_0) | (with_reducible apply put5_1) | (with_reducible apply put5_2) | (with_reducible apply put5_3) | (with_reducible apply put5_4) | (with_reducible apply put6_0) | (with_reducible apply put6_1) | (with_reducible apply put6_2) | (with_reducible apply put6_3) | (with_reducible apply put6_4) | (with_reducible apply put6_5) | (with_reducible refine blk_else (by omega) ?_) | (with_reducible refine blk_old ?_)))
        obtain ⟨Bc, hBc⟩ : ∃ x, x = w.heap.size + 1 := ⟨_, rfl⟩
        rw [← hBc] at Xc
        try rw [← hBc]
        have lec : w.heap.size ≤ Bc := by omega
        obtain ⟨Ba, hBa⟩ : ∃ x, x = w.heap.size := ⟨_, rfl⟩
        rw [← hBa] at Xa
        try rw [← hBa]
        have nac : ¬ Ba = Bc := by omega
        have nca : ¬ Bc = Ba := fun h => nac h.symm
        have lea : w.heap.size ≤ Ba := by omega
        clear hBa hBc
        clear hv0
        refine (WT.out _).mono ?_
        rintro e w1 ⟨rfl, bb⟩
        have Hc1 := Lib.hid (blk_call bb Xc)
        have Ha1 := Lib.hid (blk_call bb Xa)
        have HB1 := Lib.hid (bel_onto XB bb XB.size)
        clear Xc Xa XB bb
        obtain ⟨c0_, c1_, c2_, cf0_, cf1_, cf2_⟩ := at3 Hc1.out
        have cn_ := ne_blk Hc1.out
        have cm_ := Ne.symm (a := Bc) cn_
        have cl_ := lt_blk Hc1.out
        obtain ⟨a0_, a1_, a2_, af0_, af1_, af2_⟩ := at3 Ha1.out
        have an_ := ne_blk Ha1.out
        have am_ := Ne.symm (a := Ba) an_
        have al_ := lt_blk Ha1.out
        go_wp2_with fail
        refine cl_gen ?_
        intro v1 hv1
        have Xc : v1.heap[Bc]? = some (.cells #[.int .u64 r, .int .u64 b, .int .u64 t] 25 (0, 0)) := by
          rw [hv1]
          (repeat' (first | (with_reducible exact Hc1.out) | (with_reducible exact Ha1.out) | (with_reducible exact heap_alloc_new _ _) | (with_reducible exact blk_new (by first | (simp; done) | omega)) | (with_reducible refine blk_drew ?_) | (with_reducible apply put1_0) | (with_reducible apply put2_0) | (with_reducible apply put2_1) | (with_reducible apply put3_0) | (with_reducible apply put3_1) | (with_reducible apply put3_2) | (with_reducible apply put4_0) | (with_reducible apply put4_1) | (with_reducible apply put4_2) | (with_reducible apply put4_3) | (with_reducible apply put5_0) | (with_reducible apply put5_1) | (with_reducible apply put5_2) | (with_reducible apply put5_3) | (with_reducible apply put5_4) | (with_reducible apply put6_0) | (with_reducible apply put6_1) | (with_reducible apply put6_2) | (with_reducible apply put6_3) | (with_reducible apply put6_4) | (with_reducible apply put6_5) | (with_reducible refine blk_else (by omega) ?_) | (with_reducible refine blk_old ?_)))
        have Xa : v1.heap[Ba]? = some (.cells #[.int .u64 r, .int .u64 b, .int .u64 t] 24 (0, 0)) := by
          rw [hv1]
          (repeat' (first | (with_reducible exact Hc1.out) | (with_reducible exact Ha1.out) | (with_reducible exact heap_alloc_new _ _) | (with_reducible exact blk_new (by first | (simp; done) | omega)) | (with_reducible refine blk_drew ?_) | (with_reducible apply put1_0) | (with_reducible apply put2_0) | (with_reducible apply put2_1) | (with_reducible apply put3_0) | (with_reducible apply put3_1) | (with_reducible apply put3_2) | (with_reducible apply put4_0) | (with_reducible apply put4_1) | (with_reducible apply put4_2) | (with_reducible apply put4_3) | (with_reducible apply put5_0) | (with_reducible apply put5_1) | (with_reducible apply put5_2) | (with_reducible apply put5_3) | (with_reducible apply put5_4) | (with_reducible apply put6_0) | (with_reducible apply put6_1) | (with_reducible apply put6_2) | (with_reducible apply put6_3) | (with_reducible apply put6_4) | (with_reducible apply put6_5) | (with_reducible refine blk_else (by omega) ?_) | (with_reducible refine blk_old ?_)))
        have XB : Below w.heap.size w v1 := by
          rw [hv1]
          (repeat' (first | (with_reducible exact HB1.out) | exact Below.refl _ _ | refine below_drewN _ ?_ | refine Below.drew ?_ | refine Below.setCell ?_ (by first | (simp; done) | omega) _ | refine Below.alloc ?_ (by have := HB1.out.size; simp; omega) _))
        clear c0_ c1_ c2_ cf0_ cf1_ cf2_ cn_ cm_ cl_ a0_ a1_ a2_ af0_ af1_ af2_ an_ am_ al_
        clear hv1 Hc1 Ha1 HB1
        refine (CM.out _).mono ?_
        rintro e w2 ⟨rfl, bb⟩
        have Hc2 := Lib.hid (blk_call bb Xc)
        have Ha2 := Lib.hid (blk_call bb Xa)
        have HB2 := Lib.hid (bel_onto XB bb XB.size)
        clear Xc Xa XB bb
        obtain ⟨c0_, c1_, c2_, cf0_, cf1_, cf2_⟩ := at3 Hc2.out
        have cn_ := ne_blk Hc2.out
        have cm_ := Ne.symm (a := Bc) cn_
        have cl_ := lt_blk Hc2.out
        obtain ⟨a0_, a1_, a2_, af0_, af1_, af2_⟩ := at3 Ha2.out
        have an_ := ne_blk Ha2.out
        have am_ := Ne.symm (a := Ba) an_
        have al_ := lt_blk Ha2.out
        go_wp2_with fail
        refine cl_gen ?_
        intro v2 hv2
        have Xc : v2.heap[Bc]? = some (.cells #[.int .u64 r, .int .u64 b, .int .u64 t] 25 (0, 0)) := by
          rw [hv2]
          (repeat' (first | (with_reducible exact Hc2.out) | (with_reducible exact Ha2.out) | (with_reducible exact heap_alloc_new _ _) | (with_reducible exact blk_new (by first | (simp; done) | omega)) | (with_reducible refine blk_drew ?_) | (with_reducible apply put1_0) | (with_reducible apply put2_0) | (with_reducible apply put2_1) | (with_reducible apply put3_0) | (with_reducible apply put3_1) | (with_reducible apply put3_2) | (with_reducible apply put4_0) | (with_reducible apply put4_1) | (with_reducible apply put4_2) | (with_reducible apply put4_3) | (with_reducible apply put5_0) | (with_reducible apply put5_1) | (with_reducible apply put5_2) | (with_reducible apply put5_3) | (with_reducible apply put5_4) | (with_reducible apply put6_0) | (with_reducible apply put6_1) | (with_reducible apply put6_2) | (with_reducible apply put6_3) | (with_reducible apply put6_4) | (with_reducible apply put6_5) | (with_reducible refine blk_else (by omega) ?_) | (with_reducible refine blk_old ?_)))
        have Xa : v2.heap[Ba]? = some (.cells #[.int .u64 r, .int .u64 b, .int .u64 t] 24 (0, 0)) := by
          rw [hv2]
          (repeat' (first | (with_reducible exact Hc2.out) | (with_reducible exact Ha2.out) | (with_reducible exact heap_alloc_new _ _) | (with_reducible exact blk_new (by first | (simp; done) | omega)) | (with_reducible refine blk_drew ?_) | (with_reducible apply put1_0) | (with_reducible apply put2_0) | (with_reducible apply put2_1) | (with_reducible apply put3_0) | (with_reducible apply put3_1) | (with_reducible apply put3_2) | (with_reducible apply put4_0) | (with_reducible apply put4_1) | (with_reducible apply put4_2) | (with_reducible apply put4_3) | (with_reducible apply put5_0) | (with_reducible apply put5_1) | (with_reducible apply put5_2) | (with_reducible apply put5_3) | (with_reducible apply put5_4) | (with_reducible apply put6_0) | (with_reducible apply put6_1) | (with_reducible apply put6_2) | (with_reducible apply put6_3) | (with_reducible apply put6_4) | (with_reducible apply put6_5) | (with_reducible refine blk_else (by omega) ?_) | (with_reducible refine blk_old ?_)))
        have XB : Below w.heap.size w v2 := by
          rw [hv2]
          (repeat' (first | (with_reducible exact HB2.out) | exact Below.refl _ _ | refine below_drewN _ ?_ | refine Below.drew ?_ | refine Below.setCell ?_ (by first | (simp; done) | omega) _ | refine Below.alloc ?_ (by have := HB2.out.size; simp; omega) _))
        clear c0_ c1_ c2_ cf0_ cf1_ cf2_ cn_ cm_ cl_ a0_ a1_ a2_ af0_ af1_ af2_ an_ am_ al_
        clear hv2 Hc2 Ha2 HB2
        refine (A1.out _).mono ?_
        rintro e w3 ⟨rfl, bb⟩
        have Hc3 := Lib.hid (blk_call bb Xc)
        have Ha3 := Lib.hid (blk_call bb Xa)
        have HB3 := Lib.hid (bel_onto XB bb XB.size)
        clear Xc Xa XB bb
        obtain ⟨c0_, c1_, c2_, cf0_, cf1_, cf2_⟩ := at3 Hc3.out
        have cn_ := ne_blk Hc3.out
        have cm_ := Ne.symm (a := Bc) cn_
        have cl_ := lt_blk Hc3.out
        obtain ⟨a0_, a1_, a2_, af0_, af1_, af2_⟩ := at3 Ha3.out
        have an_ := ne_blk Ha3.out
        have am_ := Ne.symm (a := Ba) an_
        have al_ := lt_blk Ha3.out
        go_wp2_with fail
        refine cl_gen ?_
        intro v3 hv3
        have Xc : v3.heap[Bc]? = some (.cells #[.int .u64 r, .int .u64 b, .int .u64 t] 25 (0, 0)) := by
          rw [hv3]
          (repeat' (first | (with_reducible exact Hc3.out) | (with_reducible exact Ha3.out) | (with_reducible exact heap_alloc_new _ _) | (with_reducible exact blk_new (by first | (simp; done) | omega)) | (with_reducible refine blk_drew ?_) | (with_reducible apply put1_0) | (with_reducible apply put2_0) | (with_reducible apply put2_1) | (with_reducible apply put3_0) | (with_reducible apply put3_1) | (with_reducible apply put3_2) | (with_reducible apply put4_0) | (with_reducible apply put4_1) | (with_reducible apply put4_2) | (with_reducible apply put4_3) | (with_reducible apply put5_0) | (with_reducible apply put5_1) | (with_reducible apply put5_2) | (with_reducible apply put5_3) | (with_reducible apply put5_4) | (with_reducible apply put6_0) | (with_reducible apply put6_1) | (with_reducible apply put6_2) | (with_reducible apply put6_3) | (with_reducible apply put6_4) | (with_reducible apply put6_5) | (with_reducible refine blk_else (by omega) ?_) | (with_reducible refine blk_old ?_)))
        have Xa : v3.heap[Ba]? = some (.cells #[.int .u64 r, .int .u64 b, .int .u64 t] 24 (0, 0)) := by
          rw [hv3]
          (repeat' (first | (with_reducible exact Hc3.out) | (with_reducible exact Ha3.out) | (with_reducible exact heap_alloc_new _ _) | (with_reducible exact blk_new (by first | (simp; done) | omega)) | (with_reducible refine blk_drew ?_) | (with_reducible apply put1_0) | (with_reducible apply put2_0) | (with_reducible apply put2_1) | (with_reducible apply put3_0) | (with_reducible apply put3_1) | (with_reducible apply put3_2) | (with_reducible apply put4_0) | (with_reducible apply put4_1) | (with_reducible apply put4_2) | (with_reducible apply put4_3) | (with_reducible apply put5_0) | (with_reducible apply put5_1) | (with_reducible apply put5_2) | (with_reducible apply put5_3) | (with_reducible apply put5_4) | (with_reducible apply put6_0) | (with_reducible apply put6_1) | (with_reducible apply put6_2) | (with_reducible apply put6_3) | (with_reducible apply put6_4) | (with_reducible apply put6_5) | (with_reducible refine blk_else (by omega) ?_) | (with_reducible refine blk_old ?_)))
        have XB : Below w.heap.size w v3 := by
          rw [hv3]
          (repeat' (first | (with_reducible exact HB3.out) | exact Below.refl _ _ | refine below_drewN _ ?_ | refine Below.drew ?_ | refine Below.setCell ?_ (by first | (simp; done) | omega) _ | refine Below.alloc ?_ (by have := HB3.out.size; simp; omega) _))
        clear c0_ c1_ c2_ cf0_ cf1_ cf2_ cn_ cm_ cl_ a0_ a1_ a2_ af0_ af1_ af2_ an_ am_ al_
        clear hv3 Hc3 Ha3 HB3
        refine (B1.out _).mono ?_
        rintro e w4 ⟨rfl, bb⟩
        have Hc4 := Lib.hid (blk_call bb Xc)
        have Ha4 := Lib.hid (blk_call bb Xa)
        have HB4 := Lib.hid (bel_onto XB bb XB.size)
        clear Xc Xa XB bb
        obtain ⟨c0_, c1_, c2_, cf0_, cf1_, cf2_⟩ := at3 Hc4.out
        have cn_ := ne_blk Hc4.out
        have cm_ := Ne.symm (a := Bc) cn_
        have cl_ := lt_blk Hc4.out
        obtain ⟨a0_, a1_, a2_, af0_, af1_, af2_⟩ := at3 Ha4.out
        have an_ := ne_blk Ha4.out
        have am_ := Ne.symm (a := Ba) an_
        have al_ := lt_blk Ha4.out
        go_wp2_with fail
        refine cl_gen ?_
        intro v4 hv4
        have Xc : v4.heap[Bc]? = some (.cells #[.int .u64 r, .int .u64 b, .int .u64 t] 25 (0, 0)) := by
          rw [hv4]
          (repeat' (first | (with_reducible exact Hc4.out) | (with_reducible exact Ha4.out) | (with_reducible exact heap_alloc_new _ _) | (with_reducible exact blk_new (by first | (simp; done) | omega)) | (with_reducible refine blk_drew ?_) | (with_reducible apply put1_0) | (with_reducible apply put2_0) | (with_reducible apply put2_1) | (with_reducible apply put3_0) | (with_reducible apply put3_1) | (with_reducible apply put3_2) | (with_reducible apply put4_0) | (with_reducible apply put4_1) | (with_reducible apply put4_2) | (with_reducible apply put4_3) | (with_reducible apply put5_0) | (with_reducible apply put5_1) | (with_reducible apply put5_2) | (with_reducible apply put5_3) | (with_reducible apply put5_4) | (with_reducible apply put6_0) | (with_reducible apply put6_1) | (with_reducible apply put6_2) | (with_reducible apply put6_3) | (with_reducible apply put6_4) | (with_reducible apply put6_5) | (with_reducible refine blk_else (by omega) ?_) | (with_reducible refine blk_old ?_)))
        have Xa : v4.heap[Ba]? = some (.cells #[.int .u64 r, .int .u64 b, .int .u64 t] 24 (0, 0)) := by
          rw [hv4]
          (repeat' (first | (with_reducible exact Hc4.out) | (with_reducible exact Ha4.out) | (with_reducible exact heap_alloc_new _ _) | (with_reducible exact blk_new (by first | (simp; done) | omega)) | (with_reducible refine blk_drew ?_) | (with_reducible apply put1_0) | (with_reducible apply put2_0) | (with_reducible apply put2_1) | (with_reducible apply put3_0) | (with_reducible apply put3_1) | (with_reducible apply put3_2) | (with_reducible apply put4_0) | (with_reducible apply put4_1) | (with_reducible apply put4_2) | (with_reducible apply put4_3) | (with_reducible apply put5_0) | (with_reducible apply put5_1) | (with_reducible apply put5_2) | (with_reducible apply put5_3) | (with_reducible apply put5_4) | (with_reducible apply put6_0) | (with_reducible apply put6_1) | (with_reducible apply put6_2) | (with_reducible apply put6_3) | (with_reducible apply put6_4) | (with_reducible apply put6_5) | (with_reducible refine blk_else (by omega) ?_) | (with_reducible refine blk_old ?_)))
        have XB : Below w.heap.size w v4 := by
          rw [hv4]
          (repeat' (first | (with_reducible exact HB4.out) | exact Below.refl _ _ | refine below_drewN _ ?_ | refine Below.drew ?_ | refine Below.setCell ?_ (by first | (simp; done) | omega) _ | refine Below.alloc ?_ (by have := HB4.out.size; simp; omega) _))
        clear c0_ c1_ c2_ cf0_ cf1_ cf2_ cn_ cm_ cl_ a0_ a1_ a2_ af0_ af1_ af2_ an_ am_ al_
        clear hv4 Hc4 Ha4 HB4
        refine (A2.out _).mono ?_
        rintro e w5 ⟨rfl, bb⟩
        have Hc5 := Lib.hid (blk_call bb Xc)
        have Ha5 := Lib.hid (blk_call bb Xa)
        have HB5 := Lib.hid (bel_onto XB bb XB.size)
        clear Xc Xa XB bb
        obtain ⟨c0_, c1_, c2_, cf0_, cf1_, cf2_⟩ := at3 Hc5.out
        have cn_ := ne_blk Hc5.out
        have cm_ := Ne.symm (a := Bc) cn_
        have cl_ := lt_blk Hc5.out
        obtain ⟨a0_, a1_, a2_, af0_, af1_, af2_⟩ := at3 Ha5.out
        have an_ := ne_blk Ha5.out
        have am_ := Ne.symm (a := Ba) an_
        have al_ := lt_blk Ha5.out
        go_wp2_with fail
        refine cl_gen ?_
        intro v5 hv5
        have Xc : v5.heap[Bc]? = some (.cells #[.int .u64 r, .int .u64 b, .int .u64 t] 25 (0, 0)) := by
          rw [hv5]
          (repeat' (first | (with_reducible exact Hc5.out) | (with_reducible exact Ha5.out) | (with_reducible exact heap_alloc_new _ _) | (with_reducible exact blk_new (by first | (simp; done) | omega)) | (with_reducible refine blk_drew ?_) | (with_reducible apply put1_0) | (with_reducible apply put2_0) | (with_reducible apply put2_1) | (with_reducible apply put3_0) | (with_reducible apply put3_1) | (with_reducible apply put3_2) | (with_reducible apply put4_0) | (with_reducible apply put4_1) | (with_reducible apply put4_2) | (with_reducible apply put4_3) | (with_reducible apply put5_0) | (with_reducible apply put5_1) | (with_reducible apply put5_2) | (with_reducible apply put5_3) | (with_reducible apply put5_4) | (with_reducible apply put6_0) | (with_reducible apply put6_1) | (with_reducible apply put6_2) | (with_reducible apply put6_3) | (with_reducible apply put6_4) | (with_reducible apply put6_5) | (with_reducible refine blk_else (by omega) ?_) | (with_reducible refine blk_old ?_)))
        have Xa : v5.heap[Ba]? = some (.cells #[.int .u64 r, .int .u64 b, .int .u64 t] 24 (0, 0)) := by
          rw [hv5]
          (repeat' (first | (with_reducible exact Hc5.out) | (with_reducible exact Ha5.out) | (with_reducible exact heap_alloc_new _ _) | (with_reducible exact blk_new (by first | (simp; done) | omega)) | (with_reducible refine blk_drew ?_) | (with_reducible apply put1_0) | (with_reducible apply put2_0) | (with_reducible apply put2_1) | (with_reducible apply put3_0) | (with_reducible apply put3_1) | (with_reducible apply put3_2) | (with_reducible apply put4_0) | (with_reducible apply put4_1) | (with_reducible apply put4_2) | (with_reducible apply put4_3) | (with_reducible apply put5_0) | (with_reducible apply put5_1) | (with_reducible apply put5_2) | (with_reducible apply put5_3) | (with_reducible apply put5_4) | (with_reducible apply put6_0) | (with_reducible apply put6_1) | (with_reducible apply put6_2) | (with_reducible apply put6_3) | (with_reducible apply put6_4) | (with_reducible apply put6_5) | (with_reducible refine blk_else (by omega) ?_) | (with_reducible refine blk_old ?_)))
        have XB : Below w.heap.size w v5 := by
          rw [hv5]
          (repeat' (first | (with_reducible exact HB5.out) | exact Below.refl _ _ | refine below_drewN _ ?_ | refine Below.drew ?_ | refine Below.setCell ?_ (by first | (simp; done) | omega) _ | refine Below.alloc ?_ (by have := HB5.out.size; simp; omega) _))
        clear c0_ c1_ c2_ cf0_ cf1_ cf2_ cn_ cm_ cl_ a0_ a1_ a2_ af0_ af1_ af2_ an_ am_ al_
        clear hv5 Hc5 Ha5 HB5
        refine (B2.out _).mono ?_
        rintro e w6 ⟨rfl, bb⟩
        have Hc6 := Lib.hid (blk_call bb Xc)
        have Ha6 := Lib.hid (blk_call bb Xa)
        have HB6 := Lib.hid (bel_onto XB bb XB.size)
        clear Xc Xa XB bb
        obtain ⟨c0_, c1_, c2_, cf0_, cf1_, cf2_⟩ := at3 Hc6.out
        have cn_ := ne_blk Hc6.out
        have cm_ := Ne.symm (a := Bc) cn_
        have cl_ := lt_blk Hc6.out
        obtain ⟨a0_, a1_, a2_, af0_, af1_, af2_⟩ := at3 Ha6.out
        have an_ := ne_blk Ha6.out
        have am_ := Ne.symm (a := Ba) an_
        have al_ := lt_blk Ha6.out
        go_wp2_with fail
        refine cl_gen ?_
        intro v6 hv6
        have Xc : v6.heap[Bc]? = some (.cells #[.int .u64 r, .int .u64 b, .int .u64 t] 25 (0, 0)) := by
          rw [hv6]
          (repeat' (first | (with_reducible exact Hc6.out) | (with_reducible exact Ha6.out) | (with_reducible exact heap_alloc_new _ _) | (with_reducible exact blk_new (by first | (simp; done) | omega)) | (with_reducible refine blk_drew ?_) | (with_reducible apply put1_0) | (with_reducible apply put2_0) | (with_reducible apply put2_1) | (with_reducible apply put3_0) | (with_reducible apply put3_1) | (with_reducible apply put3_2) | (with_reducible apply put4_0) | (with_reducible apply put4_1) | (with_reducible apply put4_2) | (with_reducible apply put4_3) | (with_reducible apply put5_0) | (with_reducible apply put5_1) | (with_reducible apply put5_2) | (with_reducible apply put5_3) | (with_reducible apply put5_4) | (with_reducible apply put6_0) | (with_reducible apply put6_1) | (with_reducible apply put6_2) | (with_reducible apply put6_3) | (with_reducible apply put6_4) | (with_reducible apply put6_5) | (with_reducible refine blk_else (by omega) ?_) | (with_reducible refine blk_old ?_)))
        have Xa : v6.heap[Ba]? = some (.cells #[.int .u64 r, .int .u64 b, .int .u64 t] 24 (0, 0)) := by
          rw [hv6]
          (repeat' (first | (with_reducible exact Hc6.out) | (with_reducible exact Ha6.out) | (with_reducible exact heap_alloc_new _ _) | (with_reducible exact blk_new (by first | (simp; done) | omega)) | (with_reducible refine blk_drew ?_) | (with_reducible apply put1_0) | (with_reducible apply put2_0) | (with_reducible apply put2_1) | (with_reducible apply put3_0) | (with_reducible apply put3_1) | (with_reducible apply put3_2) | (with_reducible apply put4_0) | (with_reducible apply put4_1) | (with_reducible apply put4_2) | (with_reducible apply put4_3) | (with_reducible apply put5_0) | (with_reducible apply put5_1) | (with_reducible apply put5_2) | (with_reducible apply put5_3) | (with_reducible apply put5_4) | (with_reducible apply put6_0) | (with_reducible apply put6_1) | (with_reducible apply put6_2) | (with_reducible apply put6_3) | (with_reducible apply put6_4) | (with_reducible apply put6_5) | (with_reducible refine blk_else (by omega) ?_) | (with_reducible refine blk_old ?_)))
        have XB : Below w.heap.size w v6 := by
          rw [hv6]
          (repeat' (first | (with_reducible exact HB6.out) | exact Below.refl _ _ | refine below_drewN _ ?_ | refine Below.drew ?_ | refine Below.setCell ?_ (by first | (simp; done) | omega) _ | refine Below.alloc ?_ (by have := HB6.out.size; simp; omega) _))
        clear c0_ c1_ c2_ cf0_ cf1_ cf2_ cn_ cm_ cl_ a0_ a1_ a2_ af0_ af1_ af2_ an_ am_ al_
        clear hv6 Hc6 Ha6 HB6
        refine (LV.out _).mono ?_
        rintro e w7 ⟨rfl, bb⟩
        have Hc7 := Lib.hid (blk_call bb Xc)
        have Ha7 := Lib.hid (blk_call bb Xa)
        have HB7 := Lib.hid (bel_onto XB bb XB.size)
        clear Xc Xa XB bb
        obtain ⟨c0_, c1_, c2_, cf0_, cf1_, cf2_⟩ := at3 Hc7.out
        have cn_ := ne_blk Hc7.out
        have cm_ := Ne.symm (a := Bc) cn_
        have cl_ := lt_blk Hc7.out
        obtain ⟨a0_, a1_, a2_, af0_, af1_, af2_⟩ := at3 Ha7.out
        have an_ := ne_blk Ha7.out
        have am_ := Ne.symm (a := Ba) an_
        have al_ := lt_blk Ha7.out
        clear c0_ c1_ c2_ cf0_ cf1_ cf2_ cn_ cm_ cl_ a0_ a1_ a2_ af0_ af1_ af2_ an_ am_ al_
        go_wp2
        go_ret
        exact ⟨rfl, HB7.out⟩
    · rw [show BK.wait ⟨r, b, t⟩ n = (0, false) from if_neg (fun x => hb x.2)] at WT
      simp only [vw] at WT
      have hd1 : decide (b < n) = true := decide_eq_true (by omega)
      clear hs hok hb
      go_enter Try.func6, Try.ntmps6
      go_wp2_with fail
      refine cl_gen ?_
      intro v0 hv0
      have XB : Below w.heap.size w v0 := by
        rw [hv0]
        (repeat' (first | exact Below.refl _ _ | (with_reducible assumption) | refine below_drewN _ ?_ | refine Below.drew ?_ | refine Below.setCell ?_ (by simp) _ | refine Below.alloc ?_ (by simp; try omega) _))
      have Xa : v0.heap[w.heap.size]? = some (.cells #[.int .u64 r, .int .u64 b, .int .u64 t] 24 (0, 0)) := by
        rw [hv0]
        (repeat' (first | (with_reducible exact heap_alloc_new _ _) | (with_reducible exact blk_new (by first | (simp; done) | omega)) | (with_reducible refine blk_drew ?_) | (with_reducible apply put1_0) | (with_reducible apply put2_0) | (with_reducible apply put2_1) | (with_reducible apply put3_0) | (with_reducible apply put3_1) | (with_reducible apply put3_2) | (with_reducible apply put4_0) | (with_reducible apply put4_1) | (with_reducible apply put4_2) | (with_reducible apply put4_3) | (with_reducible apply put5_0) | (with_reducible apply put5_1) | (with_reducible apply put5_2) | (with_reducible apply put5_3) | (with_reducible apply put5_4) | (with_reducible apply put6_0) | (with_reducible apply put6_1) | (with_reducible apply put6_2) | (with_reducible apply put6_3) | (with_reducible apply put6_4) | (with_reducible apply put6_5) | (with_reducible refine blk_else (by omega) ?_) | (with_reducible refine blk_old ?_)))
      have Xc : v0.heap[w.heap.size + 1]? = some (.cells #[.int .u64 r, .int .u64 b, .int .u64 t] 25 (0, 0)) := by
        rw [hv0]
        (repeat' (first | (with_reducible exact heap_alloc_new _ _) | (with_reducible exact blk_new (by first | (simp; done) | omega)) | (with_reducible refine blk_drew ?_) | (with_reducible apply put1_0) | (with_reducible apply put2_0) | (with_reducible apply put2_1) | (with_reducible apply put3_0) | (with_reducible apply put3_1) | (with_reducible apply put3_2) | (with_reducible apply put4_0) | (with_reducible apply put4_1) | (with_reducible apply put4_2) | (with_reducible apply put4_3) | (with_reducible apply put5_0) | (with_reducible apply put5_1) | (with_reducible apply put5_2) | (with_reducible apply put5_3) | (with_reducible apply put5_4) | (with_reducible apply put6_0) | (with_reducible apply put6_1) | (with_reducible apply put6_2) | (with_reducible apply put6_3) | (with_reducible apply put6_4) | (with_reducible apply put6_5) | (with_reducible refine blk_else (by omega) ?_) | (with_reducible refine blk_old ?_)))
      obtain ⟨Bc, hBc⟩ : ∃ x, x = w.heap.size + 1 := ⟨_, rfl⟩
      rw [← hBc] at Xc
      try rw [← hBc]
      have lec : w.heap.size ≤ Bc := by omega
      obtain ⟨Ba, hBa⟩ : ∃ x, x = w.heap.size := ⟨_, rfl⟩
      rw [← hBa] at Xa
      try rw [← hBa]
      have nac : ¬ Ba = Bc := by omega
      have nca : ¬ Bc = Ba := fun h => nac h.symm
      have lea : w.heap.size ≤ Ba := by omega
      clear hBa hBc
      clear hv0
      refine (WT.out _).mono ?_
      rintro e w1 ⟨rfl, bb⟩
      have Hc1 := Lib.hid (blk_call bb Xc)
      have Ha1 := Lib.hid (blk_call bb Xa)
      have HB1 := Lib.hid (bel_onto XB bb XB.size)
      clear Xc Xa XB bb
      obtain ⟨c0_, c1_, c2_, cf0_, cf1_, cf2_⟩ := at3 Hc1.out
      have cn_ := ne_blk Hc1.out
      have cm_ := Ne.symm (a := Bc) cn_
      have cl_ := lt_blk Hc1.out
      obtain ⟨a0_, a1_, a2_, af0_, af1_, af2_⟩ := at3 Ha1.out
      have an_ := ne_blk Ha1.out
      have am_ := Ne.symm (a := Ba) an_
      have al_ := lt_blk Ha1.out
      go_wp2_with fail
      refine cl_gen ?_
      intro v1 hv1
      have Xc : v1.heap[Bc]? = some (.cells #[.int .u64 r, .int .u64 b, .int .u64 t] 25 (0, 0)) := by
        rw [hv1]
        (repeat' (first | (with_reducible exact Hc1.out) | (with_reducible exact Ha1.out) | (with_reducible exact heap_alloc_new _ _) | (with_reducible exact blk_new (by first | (simp; done) | omega)) | (with_reducible refine blk_drew ?_) | (with_reducible apply put1_0) | (with_reducible apply put2_0) | (with_reducible apply put2_1) | (with_reducible apply put3_0) | (with_reducible apply put3_1) | (with_reducible apply put3_2) | (with_reducible apply put4_0) | (with_reducible apply put4_1) | (with_reducible apply put4_2) | (with_reducible apply put4_3) | (with_reducible apply put5_0) | (with_reducible apply put5_1) | (with_reducible apply put5_2) | (with_reducible apply put5_3) | (with_reducible apply put5_4) | (with_reducible apply put6_0) | (with_reducible apply put6_1) | (with_reducible apply put6_2) | (with_reducible apply put6_3) | (with_reducible apply put6_4) | (with_reducible apply put6_5) | (with_reducible refine blk_else (by omega) ?_) | (with_reducible refine blk_old ?_)))
      have Xa : v1.heap[Ba]? = some (.cells #[.int .u64 r, .int .u64 b, .int .u64 t] 24 (0, 0)) := by
        rw [hv1]
        (repeat' (first | (with_reducible exact Hc1.out) | (with_reducible exact Ha1.out) | (with_reducible exact heap_alloc_new _ _) | (with_reducible exact blk_new (by first | (simp; done) | omega)) | (with_reducible refine blk_drew ?_) | (with_reducible apply put1_0) | (with_reducible apply put2_0) | (with_reducible apply put2_1) | (with_reducible apply put3_0) | (with_reducible apply put3_1) | (with_reducible apply put3_2) | (with_reducible apply put4_0) | (with_reducible apply put4_1) | (with_reducible apply put4_2) | (with_reducible apply put4_3) | (with_reducible apply put5_0) | (with_reducible apply put5_1) | (with_reducible apply put5_2) | (with_reducible apply put5_3) | (with_reducible apply put5_4) | (with_reducible apply put6_0) | (with_reducible apply put6_1) | (with_reducible apply put6_2) | (with_reducible apply put6_3) | (with_reducible apply put6_4) | (with_reducible apply put6_5) | (with_reducible refine blk_else (by omega) ?_) | (with_reducible refine blk_old ?_)))
      have XB : Below w.heap.size w v1 := by
        rw [hv1]
        (repeat' (first | (with_reducible exact HB1.out) | exact Below.refl _ _ | refine below_drewN _ ?_ | refine Below.drew ?_ | refine Below.setCell ?_ (by first | (simp; done) | omega) _ | refine Below.alloc ?_ (by have := HB1.out.size; simp; omega) _))
      clear c0_ c1_ c2_ cf0_ cf1_ cf2_ cn_ cm_ cl_ a0_ a1_ a2_ af0_ af1_ af2_ an_ am_ al_
      clear hv1 Hc1 Ha1 HB1
      refine (CM.out _).mono ?_
      rintro e w2 ⟨rfl, bb⟩
      have Hc2 := Lib.hid (blk_call bb Xc)
      have Ha2 := Lib.hid (blk_call bb Xa)
      have HB2 := Lib.hid (bel_onto XB bb XB.size)
      clear Xc Xa XB bb
      obtain ⟨c0_, c1_, c2_, cf0_, cf1_, cf2_⟩ := at3 Hc2.out
      have cn_ := ne_blk Hc2.out
      have cm_ := Ne.symm (a := Bc) cn_
      have cl_ := lt_blk Hc2.out
      obtain ⟨a0_, a1_, a2_, af0_, af1_, af2_⟩ := at3 Ha2.out
      have an_ := ne_blk Ha2.out
      have am_ := Ne.symm (a := Ba) an_
      have al_ := lt_blk Ha2.out
      go_wp2_with fail
      refine cl_gen ?_
      intro v2 hv2
      have Xc : v2.heap[Bc]? = some (.cells #[.int .u64 r, .int .u64 b, .int .u64 t] 25 (0, 0)) := by
        rw [hv2]
        (repeat' (first | (with_reducible exact Hc2.out) | (with_reducible exact Ha2.out) | (with_reducible exact heap_alloc_new _ _) | (with_reducible exact blk_new (by first | (simp; done) | omega)) | (with_reducible refine blk_drew ?_) | (with_reducible apply put1_0) | (with_reducible apply put2_0) | (with_reducible apply put2_1) | (with_reducible apply put3_0) | (with_reducible apply put3_1) | (with_reducible apply put3_2) | (with_reducible apply put4_0) | (with_reducible apply put4_1) | (with_reducible apply put4_2) | (with_reducible apply put4_3) | (with_reducible apply put5_0) | (with_reducible apply put5_1) | (with_reducible apply put5_2) | (with_reducible apply put5_3) | (with_reducible apply put5_4) | (with_reducible apply put6_0) | (with_reducible apply put6_1) | (with_reducible apply put6_2) | (with_reducible apply put6_3) | (with_reducible apply put6_4) | (with_reducible apply put6_5) | (with_reducible refine blk_else (by omega) ?_) | (with_reducible refine blk_old ?_)))
      have Xa : v2.heap[Ba]? = some (.cells #[.int .u64 r, .int .u64 b, .int .u64 t] 24 (0, 0)) := by
        rw [hv2]
        (repeat' (first | (with_reducible exact Hc2.out) | (with_reducible exact Ha2.out) | (with_reducible exact heap_alloc_new _ _) | (with_reducible exact blk_new (by first | (simp; done) | omega)) | (with_reducible refine blk_drew ?_) | (with_reducible apply put1_0) | (with_reducible apply put2_0) | (with_reducible apply put2_1) | (with_reducible apply put3_0) | (with_reducible apply put3_1) | (with_reducible apply put3_2) | (with_reducible apply put4_0) | (with_reducible apply put4_1) | (with_reducible apply put4_2) | (with_reducible apply put4_3) | (with_reducible apply put5_0) | (with_reducible apply put5_1) | (with_reducible apply put5_2) | (with_reducible apply put5_3) | (with_reducible apply put5_4) | (with_reducible apply put6_0) | (with_reducible apply put6_1) | (with_reducible apply put6_2) | (with_reducible apply put6_3) | (with_reducible apply put6_4) | (with_reducible apply put6_5) | (with_reducible refine blk_else (by omega) ?_) | (with_reducible refine blk_old ?_)))
      have XB : Below w.heap.size w v2 := by
        rw [hv2]
        (repeat' (first | (with_reducible exact HB2.out) | exact Below.refl _ _ | refine below_drewN _ ?_ | refine Below.drew ?_ | refine Below.setCell ?_ (by first | (simp; done) | omega) _ | refine Below.alloc ?_ (by have := HB2.out.size; simp; omega) _))
      clear c0_ c1_ c2_ cf0_ cf1_ cf2_ cn_ cm_ cl_ a0_ a1_ a2_ af0_ af1_ af2_ an_ am_ al_
      clear hv2 Hc2 Ha2 HB2
      refine (LV.out _).mono ?_
      rintro e w3 ⟨rfl, bb⟩
      have Hc3 := Lib.hid (blk_call bb Xc)
      have Ha3 := Lib.hid (blk_call bb Xa)
      have HB3 := Lib.hid (bel_onto XB bb XB.size)
      clear Xc Xa XB bb
      obtain ⟨c0_, c1_, c2_, cf0_, cf1_, cf2_⟩ := at3 Hc3.out
      have cn_ := ne_blk Hc3.out
      have cm_ := Ne.symm (a := Bc) cn_
      have cl_ := lt_blk Hc3.out
      obtain ⟨a0_, a1_, a2_, af0_, af1_, af2_⟩ := at3 Ha3.out
      have an_ := ne_blk Ha3.out
      have am_ := Ne.symm (a := Ba) an_
      have al_ := lt_blk Ha3.out
      clear c0_ c1_ c2_ cf0_ cf1_ cf2_ cn_ cm_ cl_ a0_ a1_ a2_ af0_ af1_ af2_ an_ am_ al_
      go_wp2
      go_ret
      exact ⟨rfl, HB3.out⟩
  · have hk : bck r b t ≠ 0 := fun h => hok (bck_ok.1 h)
    generalize bck r b t = kk at *
    have g : (kk != 0) = true := by simp [hk]
    rw [show BK.wait ⟨r, b, t⟩ n = (0, false) from if_neg (fun x => hok x.1)] at WT
    simp only [vw] at WT
    clear hs hok hk
    go_enter Try.func6, Try.ntmps6
    go_wp2_with fail
    refine cl_gen ?_
    intro v0 hv0
    have XB : Below w.heap.size w v0 := by
      rw [hv0]
      (repeat' (first | exact Below.refl _ _ | (with_reducible assumption) | refine below_drewN _ ?_ | refine Below.drew ?_ | refine Below.setCell ?_ (by simp) _ | refine Below.alloc ?_ (by simp; try omega) _))
    have Xa : v0.heap[w.heap.size]? = some (.cells #[.int .u64 r, .int .u64 b, .int .u64 t] 24 (0, 0)) := by
      rw [hv0]
      (repeat' (first | (with_reducible exact heap_alloc_new _ _) | (with_reducible exact blk_new (by first | (simp; done) | omega)) | (with_reducible refine blk_drew ?_) | (with_reducible apply put1_0) | (with_reducible apply put2_0) | (with_reducible apply put2_1) | (with_reducible apply put3_0) | (with_reducible apply put3_1) | (with_reducible apply put3_2) | (with_reducible apply put4_0) | (with_reducible apply put4_1) | (with_reducible apply put4_2) | (with_reducible apply put4_3) | (with_reducible apply put5_0) | (with_reducible apply put5_1) | (with_reducible apply put5_2) | (with_reducible apply put5_3) | (with_reducible apply put5_4) | (with_reducible apply put6_0) | (with_reducible apply put6_1) | (with_reducible apply put6_2) | (with_reducible apply put6_3) | (with_reducible apply put6_4) | (with_reducible apply put6_5) | (with_reducible refine blk_else (by omega) ?_) | (with_reducible refine blk_old ?_)))
    have Xc : v0.heap[w.heap.size + 1]? = some (.cells #[.int .u64 r, .int .u64 b, .int .u64 t] 25 (0, 0)) := by
      rw [hv0]
      (repeat' (first | (with_reducible exact heap_alloc_new _ _) | (with_reducible exact blk_new (by first | (simp; done) | omega)) | (with_reducible refine blk_drew ?_) | (with_reducible apply put1_0) | (with_reducible apply put2_0) | (with_reducible apply put2_1) | (with_reducible apply put3_0) | (with_reducible apply put3_1) | (with_reducible apply put3_2) | (with_reducible apply put4_0) | (with_reducible apply put4_1) | (with_reducible apply put4_2) | (with_reducible apply put4_3) | (with_reducible apply put5_0) | (with_reducible apply put5_1) | (with_reducible apply put5_2) | (with_reducible apply put5_3) | (with_reducible apply put5_4) | (with_reducible apply put6_0) | (with_reducible apply put6_1) | (with_reducible apply put6_2) | (with_reducible apply put6_3) | (with_reducible apply put6_4) | (with_reducible apply put6_5) | (with_reducible refine blk_else (by omega) ?_) | (with_reducible refine blk_old ?_)))
    obtain ⟨Bc, hBc⟩ : ∃ x, x = w.heap.size + 1 := ⟨_, rfl⟩
    rw [← hBc] at Xc
    try rw [← hBc]
    have lec : w.heap.size ≤ Bc := by omega
    obtain ⟨Ba, hBa⟩ : ∃ x, x = w.heap.size := ⟨_, rfl⟩
    rw [← hBa] at Xa
    try rw [← hBa]
    have nac : ¬ Ba = Bc := by omega
    have nca : ¬ Bc = Ba := fun h => nac h.symm
    have lea : w.heap.size ≤ Ba := by omega
    clear hBa hBc
    clear hv0
    refine (WT.out _).mono ?_
    rintro e w1 ⟨rfl, bb⟩
    have Hc1 := Lib.hid (blk_call bb Xc)
    have Ha1 := Lib.hid (blk_call bb Xa)
    have HB1 := Lib.hid (bel_onto XB bb XB.size)
    clear Xc Xa XB bb
    obtain ⟨c0_, c1_, c2_, cf0_, cf1_, cf2_⟩ := at3 Hc1.out
    have cn_ := ne_blk Hc1.out
    have cm_ := Ne.symm (a := Bc) cn_
    have cl_ := lt_blk Hc1.out
    obtain ⟨a0_, a1_, a2_, af0_, af1_, af2_⟩ := at3 Ha1.out
    have an_ := ne_blk Ha1.out
    have am_ := Ne.symm (a := Ba) an_
    have al_ := lt_blk Ha1.out
    go_wp2_with fail
    refine cl_gen ?_
    intro v1 hv1
    have Xc : v1.heap[Bc]? = some (.cells #[.int .u64 r, .int .u64 b, .int .u64 t] 25 (0, 0)) := by
      rw [hv1]
      (repeat' (first | (with_reducible exact Hc1.out) | (with_reducible exact Ha1.out) | (with_reducible exact heap_alloc_new _ _) | (with_reducible exact blk_new (by first | (simp; done) | omega)) | (with_reducible refine blk_drew ?_) | (with_reducible apply put1_0) | (with_reducible apply put2_0) | (with_reducible apply put2_1) | (with_reducible apply put3_0) | (with_reducible apply put3_1) | (with_reducible apply put3_2) | (with_reducible apply put4_0) | (with_reducible apply put4_1) | (with_reducible apply put4_2) | (with_reducible apply put4_3) | (with_reducible apply put5_0) | (with_reducible apply put5_1) | (with_reducible apply put5_2) | (with_reducible apply put5_3) | (with_reducible apply put5_4) | (with_reducible apply put6_0) | (with_reducible apply put6_1) | (with_reducible apply put6_2) | (with_reducible apply put6_3) | (with_reducible apply put6_4) | (with_reducible apply put6_5) | (with_reducible refine blk_else (by omega) ?_) | (with_reducible refine blk_old ?_)))
    have Xa : v1.heap[Ba]? = some (.cells #[.int .u64 r, .int .u64 b, .int .u64 t] 24 (0, 0)) := by
      rw [hv1]
      (repeat' (first | (with_reducible exact Hc1.out) | (with_reducible exact Ha1.out) | (with_reducible exact heap_alloc_new _ _) | (with_reducible exact blk_new (by first | (simp; done) | omega)) | (with_reducible refine blk_drew ?_) | (with_reducible apply put1_0) | (with_reducible apply put2_0) | (with_reducible apply put2_1) | (with_reducible apply put3_0) | (with_reducible apply put3_1) | (with_reducible apply put3_2) | (with_reducible apply put4_0) | (with_reducible apply put4_1) | (with_reducible apply put4_2) | (with_reducible apply put4_3) | (with_reducible apply put5_0) | (with_reducible apply put5_1) | (with_reducible apply put5_2) | (with_reducible apply put5_3) | (with_reducible apply put5_4) | (with_reducible apply put6_0) | (with_reducible apply put6_1) | (with_reducible apply put6_2) | (with_reducible apply put6_3) | (with_reducible apply put6_4) | (with_reducible apply put6_5) | (with_reducible refine blk_else (by omega) ?_) | (with_reducible refine blk_old ?_)))
    have XB : Below w.heap.size w v1 := by
      rw [hv1]
      (repeat' (first | (with_reducible exact HB1.out) | exact Below.refl _ _ | refine below_drewN _ ?_ | refine Below.drew ?_ | refine Below.setCell ?_ (by first | (simp; done) | omega) _ | refine Below.alloc ?_ (by have := HB1.out.size; simp; omega) _))
    clear c0_ c1_ c2_ cf0_ cf1_ cf2_ cn_ cm_ cl_ a0_ a1_ a2_ af0_ af1_ af2_ an_ am_ al_
    clear hv1 Hc1 Ha1 HB1
    refine (CM.out _).mono ?_
    rintro e w2 ⟨rfl, bb⟩
    have Hc2 := Lib.hid (blk_call bb Xc)
    have Ha2 := Lib.hid (blk_call bb Xa)
    have HB2 := Lib.hid (bel_onto XB bb XB.size)
    clear Xc Xa XB bb
    obtain ⟨c0_, c1_, c2_, cf0_, cf1_, cf2_⟩ := at3 Hc2.out
    have cn_ := ne_blk Hc2.out
    have cm_ := Ne.symm (a := Bc) cn_
    have cl_ := lt_blk Hc2.out
    obtain ⟨a0_, a1_, a2_, af0_, af1_, af2_⟩ := at3 Ha2.out
    have an_ := ne_blk Ha2.out
    have am_ := Ne.symm (a := Ba) an_
    have al_ := lt_blk Ha2.out
    go_wp2_with fail
    refine cl_gen ?_
    intro v2 hv2
    have Xc : v2.heap[Bc]? = some (.cells #[.int .u64 r, .int .u64 b, .int .u64 t] 25 (0, 0)) := by
      rw [hv2]
      (repeat' (first | (with_reducible exact Hc2.out) | (with_reducible exact Ha2.out) | (with_reducible exact heap_alloc_new _ _) | (with_reducible exact blk_new (by first | (simp; done) | omega)) | (with_reducible refine blk_drew ?_) | (with_reducible apply put1_0) | (with_reducible apply put2_0) | (with_reducible apply put2_1) | (with_reducible apply put3_0) | (with_reducible apply put3_1) | (with_reducible apply put3_2) | (with_reducible apply put4_0) | (with_reducible apply put4_1) | (with_reducible apply put4_2) | (with_reducible apply put4_3) | (with_reducible apply put5_0) | (with_reducible apply put5_1) | (with_reducible apply put5_2) | (with_reducible apply put5_3) | (with_reducible apply put5_4) | (with_reducible apply put6_0) | (with_reducible apply put6_1) | (with_reducible apply put6_2) | (with_reducible apply put6_3) | (with_reducible apply put6_4) | (with_reducible apply put6_5) | (with_reducible refine blk_else (by omega) ?_) | (with_reducible refine blk_old ?_)))
    have Xa : v2.heap[Ba]? = some (.cells #[.int .u64 r, .int .u64 b, .int .u64 t] 24 (0, 0)) := by
      rw [hv2]
      (repeat' (first | (with_reducible exact Hc2.out) | (with_reducible exact Ha2.out) | (with_reducible exact heap_alloc_new _ _) | (with_reducible exact blk_new (by first | (simp; done) | omega)) | (with_reducible refine blk_drew ?_) | (with_reducible apply put1_0) | (with_reducible apply put2_0) | (with_reducible apply put2_1) | (with_reducible apply put3_0) | (with_reducible apply put3_1) | (with_reducible apply put3_2) | (with_reducible apply put4_0) | (with_reducible apply put4_1) | (with_reducible apply put4_2) | (with_reducible apply put4_3) | (with_reducible apply put5_0) | (with_reducible apply put5_1) | (with_reducible apply put5_2) | (with_reducible apply put5_3) | (with_reducible apply put5_4) | (with_reducible apply put6_0) | (with_reducible apply put6_1) | (with_reducible apply put6_2) | (with_reducible apply put6_3) | (with_reducible apply put6_4) | (with_reducible apply put6_5) | (with_reducible refine blk_else (by omega) ?_) | (with_reducible refine blk_old ?_)))
    have XB : Below w.heap.size w v2 := by
      rw [hv2]
      (repeat' (first | (with_reducible exact HB2.out) | exact Below.refl _ _ | refine below_drewN _ ?_ | refine Below.drew ?_ | refine Below.setCell ?_ (by first | (simp; done) | omega) _ | refine Below.alloc ?_ (by have := HB2.out.size; simp; omega) _))
    clear c0_ c1_ c2_ cf0_ cf1_ cf2_ cn_ cm_ cl_ a0_ a1_ a2_ af0_ af1_ af2_ an_ am_ al_
    clear hv2 Hc2 Ha2 HB2
    refine (LV.out _).mono ?_
    rintro e w3 ⟨rfl, bb⟩
    have Hc3 := Lib.hid (blk_call bb Xc)
    have Ha3 := Lib.hid (blk_call bb Xa)
    have HB3 := Lib.hid (bel_onto XB bb XB.size)
    clear Xc Xa XB bb
    obtain ⟨c0_, c1_, c2_, cf0_, cf1_, cf2_⟩ := at3 Hc3.out
    have cn_ := ne_blk Hc3.out
    have cm_ := Ne.symm (a := Bc) cn_
    have cl_ := lt_blk Hc3.out
    obtain ⟨a0_, a1_, a2_, af0_, af1_, af2_⟩ := at3 Ha3.out
    have an_ := ne_blk Ha3.out
    have am_ := Ne.symm (a := Ba) an_
    have al_ := lt_blk Ha3.out
    clear c0_ c1_ c2_ cf0_ cf1_ cf2_ cn_ cm_ cl_ a0_ a1_ a2_ af0_ af1_ af2_ an_ am_ al_
    go_wp2
    go_ret
    exact ⟨rfl, HB3.out⟩
end Go.Proofs.Ytgmdhanbeafagaa
