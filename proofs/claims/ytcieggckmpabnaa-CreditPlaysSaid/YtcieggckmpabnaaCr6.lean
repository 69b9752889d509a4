/-
  What the document's answer of layer 23 says of which class may be. No condition.
-/
import Derived.Test.YtcieggckmpabnaaCr1
namespace Go.Proofs.Ytcieggckmpabnaa
set_option linter.unusedVariables false
set_option linter.unusedSimpArgs false
open Go.ChangeShapes Go.WideShapes Go.ChangeAt Go.RowKit
attribute [local go_sem] alloc_drewN setCell_drewN

set_option maxRecDepth 100000 in
set_option maxHeartbeats 4000000 in
theorem cr_rfits (n : Int) (w : World) : Calls Try.prog 103 #[.int .i64 n] w fun e w' => e = .returned (.bool (decide (1 ≤ n ∧ n ≤ 1048576))) ∧ Below w.heap.size w w' := by
  by_cases h1 : 1 ≤ n
  · have g1 : decide (1 ≤ n) = true := decide_eq_true h1
    by_cases h2 : n ≤ 1048576
    · have g2 : decide (n ≤ 1048576) = true := decide_eq_true h2
      rw [decide_eq_true ⟨h1, h2⟩]
      go_enter Try.func103, Try.ntmps103
      go_wp2
      go_ret
      exact ⟨rfl, Below.refl _ _⟩
    · have g2 : decide (n ≤ 1048576) = false := decide_eq_false h2
      rw [decide_eq_false (fun h => h2 h.2)]
      go_enter Try.func103, Try.ntmps103
      go_wp2
      go_ret
      exact ⟨rfl, Below.refl _ _⟩
  · have g1 : decide (1 ≤ n) = false := decide_eq_false h1
    rw [decide_eq_false (fun h => h1 h.1)]
    go_enter Try.func103, Try.ntmps103
    go_wp2
    go_ret
    exact ⟨rfl, Below.refl _ _⟩
set_option maxRecDepth 100000 in
set_option maxHeartbeats 4000000 in
theorem cr_rmay (i s h v : Int) (w : World) : Calls Try.prog 57 #[.agg #[.int .i64 i, .int .i64 s, .int .i64 h, .int .i64 v]] w fun e w' => e = .returned (.bool (decide (CD.ok ⟨i, s, h, v⟩))) ∧ Below w.heap.size w w' := by
  have F1 := Lib.hid (fun W => cr_rfits i W)
  have F2 := Lib.hid (fun W => cr_rfits s W)
  have F3 := Lib.hid (fun W => cr_rfits h W)
  by_cases x0 : 1 ≤ i ∧ i ≤ 1048576
  · rw [decide_eq_true x0] at F1
    by_cases x1 : 1 ≤ s ∧ s ≤ 1048576
    · rw [decide_eq_true x1] at F2
      by_cases x2 : 1 ≤ h ∧ h ≤ 1048576
      · rw [decide_eq_true x2] at F3
        by_cases x3 : -1099511627776 ≤ v
        · have g3 : decide (-1099511627776 ≤ v) = true := decide_eq_true x3
          by_cases x4 : v ≤ h
          · have g4 : decide (v ≤ h) = true := decide_eq_true x4
            rw [show decide (CD.ok ⟨i, s, h, v⟩) = true from decide_eq_true ⟨x0, x1, x2, x3, x4⟩]
            clear x0 x1 x2 x3 x4
            go_enter Try.func57, Try.ntmps57
            go_wp2_with fail
            refine cl_gen ?_
            intro v0 hv0
            have XB : Below w.heap.size w v0 := by
              rw [hv0]
              (repeat' (first | (with_reducible exact Below.refl _ _) | (with_reducible assumption) | (with_reducible refine below_drewN _ ?_) | (with_reducible refine Below.drew ?_) | (with_reducible refine Below.setCell ?_ (by simp) _) | (with_reducible refine Below.alloc ?_ (by simp; try omega) _)))
            have Xc : v0.heap[w.heap.size]? = some (.cells #[.int .i64 i, .int .i64 s, .int .i64 h, .int .i64 v] 121 (0, 0)) := by
              rw [hv0]
              (repeat' (first | (with_reducible exact heap_alloc_new _ _) | (with_reducible exact blk_new (by first | (simp; done) | omega)) | (with_reducible refine blk_drew ?_) | (with_reducible apply put4_0) | (with_reducible apply put4_1) | (with_reducible apply put4_2) | (with_reducible apply put4_3) | (with_reducible refine blk_else (by omega) ?_) | (with_reducible refine blk_old ?_)))
            obtain ⟨Bc, hBc⟩ : ∃ x, x = w.heap.size := ⟨_, rfl⟩
            rw [← hBc] at Xc
            try rw [← hBc]
            have lec : w.heap.size ≤ Bc := by omega
            clear hBc
            clear hv0
            refine (F1.out _).mono ?_
            rintro e w1 ⟨rfl, bb⟩
            have Hc1 := Lib.hid (blk_call bb Xc)
            have HB1 := Lib.hid (bel_onto XB bb XB.size)
            clear Xc XB bb
            obtain ⟨c0_, c1_, c2_, c3_, cf0_, cf1_, cf2_, cf3_⟩ := at4 Hc1.out
            have cn_ := ne_blk Hc1.out
            have cm_ := Ne.symm (a := Bc) cn_
            have cl_ := lt_blk Hc1.out
            go_wp2_with fail
            refine cl_gen ?_
            intro v1 hv1
            have Xc : v1.heap[Bc]? = some (.cells #[.int .i64 i, .int .i64 s, .int .i64 h, .int .i64 v] 121 (0, 0)) := by
              rw [hv1]
              (repeat' (first | (with_reducible exact Hc1.out) | (with_reducible exact heap_alloc_new _ _) | (with_reducible exact blk_new (by first | (simp; done) | omega)) | (with_reducible refine blk_drew ?_) | (with_reducible apply put4_0) | (with_reducible apply put4_1) | (with_reducible apply put4_2) | (with_reducible apply put4_3) | (with_reducible refine blk_else (by omega) ?_) | (with_reducible refine blk_old ?_)))
            have XB : Below w.heap.size w v1 := by
              rw [hv1]
              (repeat' (first | (with_reducible exact HB1.out) | (with_reducible exact Below.refl _ _) | (with_reducible refine below_drewN _ ?_) | (with_reducible refine Below.drew ?_) | (with_reducible refine Below.setCell ?_ (by first | (simp; done) | omega) _) | (with_reducible refine Below.alloc ?_ (by have := HB1.out.size; simp; omega) _)))
            clear c0_ c1_ c2_ c3_ cf0_ cf1_ cf2_ cf3_ cn_ cm_ cl_
            clear hv1 Hc1 HB1
            refine (F2.out _).mono ?_
            rintro e w2 ⟨rfl, bb⟩
            have Hc2 := Lib.hid (blk_call bb Xc)
            have HB2 := Lib.hid (bel_onto XB bb XB.size)
            clear Xc XB bb
            obtain ⟨c0_, c1_, c2_, c3_, cf0_, cf1_, cf2_, cf3_⟩ := at4 Hc2.out
            have cn_ := ne_blk Hc2.out
            have cm_ := Ne.symm (a := Bc) cn_
            have cl_ := lt_blk Hc2.out
            go_wp2_with fail
            refine cl_gen ?_
            intro v2 hv2
            have Xc : v2.heap[Bc]? = some (.cells #[.int .i64 i, .int .i64 s, .int .i64 h, .int .i64 v] 121 (0, 0)) := by
              rw [hv2]
              (repeat' (first | (with_reducible exact Hc2.out) | (with_reducible exact heap_alloc_new _ _) | (with_reducible exact blk_new (by first | (simp; done) | omega)) | (with_reducible refine blk_drew ?_) | (with_reducible apply put4_0) | (with_reducible apply put4_1) | (with_reducible apply put4_2) | (with_reducible apply put4_3) | (with_reducible refine blk_else (by omega) ?_) | (with_reducible refine blk_old ?_)))
            have XB : Below w.heap.size w v2 := by
              rw [hv2]
              (repeat' (first | (with_reducible exact HB2.out) | (with_reducible exact Below.refl _ _) | (with_reducible refine below_drewN _ ?_) | (with_reducible refine Below.drew ?_) | (with_reducible refine Below.setCell ?_ (by first | (simp; done) | omega) _) | (with_reducible refine Below.alloc ?_ (by have := HB2.out.size; simp; omega) _)))
            clear c0_ c1_ c2_ c3_ cf0_ cf1_ cf2_ cf3_ cn_ cm_ cl_
            clear hv2 Hc2 HB2
            refine (F3.out _).mono ?_
            rintro e w3 ⟨rfl, bb⟩
            have Hc3 := Lib.hid (blk_call bb Xc)
            have HB3 := Lib.hid (bel_onto XB bb XB.size)
            clear Xc XB bb
            obtain ⟨c0_, c1_, c2_, c3_, cf0_, cf1_, cf2_, cf3_⟩ := at4 Hc3.out
            have cn_ := ne_blk Hc3.out
            have cm_ := Ne.symm (a := Bc) cn_
            have cl_ := lt_blk Hc3.out
            go_wp2
            go_ret
            exact ⟨rfl, HB3.out⟩
          · have g4 : decide (v ≤ h) = false := decide_eq_false x4
            rw [show decide (CD.ok ⟨i, s, h, v⟩) = false from decide_eq_false (fun k => x4 k.2.2.2.2)]
            clear x0 x1 x2 x3 x4
            go_enter Try.func57, Try.ntmps57
            go_wp2_with fail
            refine cl_gen ?_
            intro v0 hv0
            have XB : Below w.heap.size w v0 := by
              rw [hv0]
              (repeat' (first | (with_reducible exact Below.refl _ _) | (with_reducible assumption) | (with_reducible refine below_drewN _ ?_) | (with_reducible refine Below.drew ?_) | (with_reducible refine Below.setCell ?_ (by simp) _) | (with_reducible refine Below.alloc ?_ (by simp; try omega) _)))
            have Xc : v0.heap[w.heap.size]? = some (.cells #[.int .i64 i, .int .i64 s, .int .i64 h, .int .i64 v] 121 (0, 0)) := by
              rw [hv0]
              (repeat' (first | (with_reducible exact heap_alloc_new _ _) | (with_reducible exact blk_new (by first | (simp; done) | omega)) | (with_reducible refine blk_drew ?_) | (with_reducible apply put4_0) | (with_reducible apply put4_1) | (with_reducible apply put4_2) | (with_reducible apply put4_3) | (with_reducible refine blk_else (by omega) ?_) | (with_reducible refine blk_old ?_)))
            obtain ⟨Bc, hBc⟩ : ∃ x, x = w.heap.size := ⟨_, rfl⟩
            rw [← hBc] at Xc
            try rw [← hBc]
            have lec : w.heap.size ≤ Bc := by omega
            clear hBc
            clear hv0
            refine (F1.out _).mono ?_
            rintro e w1 ⟨rfl, bb⟩
            have Hc1 := Lib.hid (blk_call bb Xc)
            have HB1 := Lib.hid (bel_onto XB bb XB.size)
            clear Xc XB bb
            obtain ⟨c0_, c1_, c2_, c3_, cf0_, cf1_, cf2_, cf3_⟩ := at4 Hc1.out
            have cn_ := ne_blk Hc1.out
            have cm_ := Ne.symm (a := Bc) cn_
            have cl_ := lt_blk Hc1.out
            go_wp2_with fail
            refine cl_gen ?_
            intro v1 hv1
            have Xc : v1.heap[Bc]? = some (.cells #[.int .i64 i, .int .i64 s, .int .i64 h, .int .i64 v] 121 (0, 0)) := by
              rw [hv1]
              (repeat' (first | (with_reducible exact Hc1.out) | (with_reducible exact heap_alloc_new _ _) | (with_reducible exact blk_new (by first | (simp; done) | omega)) | (with_reducible refine blk_drew ?_) | (with_reducible apply put4_0) | (with_reducible apply put4_1) | (with_reducible apply put4_2) | (with_reducible apply put4_3) | (with_reducible refine blk_else (by omega) ?_) | (with_reducible refine blk_old ?_)))
            have XB : Below w.heap.size w v1 := by
              rw [hv1]
              (repeat' (first | (with_reducible exact HB1.out) | (with_reducible exact Below.refl _ _) | (with_reducible refine below_drewN _ ?_) | (with_reducible refine Below.drew ?_) | (with_reducible refine Below.setCell ?_ (by first | (simp; done) | omega) _) | (with_reducible refine Below.alloc ?_ (by have := HB1.out.size; simp; omega) _)))
            clear c0_ c1_ c2_ c3_ cf0_ cf1_ cf2_ cf3_ cn_ cm_ cl_
            clear hv1 Hc1 HB1
            refine (F2.out _).mono ?_
            rintro e w2 ⟨rfl, bb⟩
            have Hc2 := Lib.hid (blk_call bb Xc)
            have HB2 := Lib.hid (bel_onto XB bb XB.size)
            clear Xc XB bb
            obtain ⟨c0_, c1_, c2_, c3_, cf0_, cf1_, cf2_, cf3_⟩ := at4 Hc2.out
            have cn_ := ne_blk Hc2.out
            have cm_ := Ne.symm (a := Bc) cn_
            have cl_ := lt_blk Hc2.out
            go_wp2_with fail
            refine cl_gen ?_
            intro v2 hv2
            have Xc : v2.heap[Bc]? = some (.cells #[.int .i64 i, .int .i64 s, .int .i64 h, .int .i64 v] 121 (0, 0)) := by
              rw [hv2]
              (repeat' (first | (with_reducible exact Hc2.out) | (with_reducible exact heap_alloc_new _ _) | (with_reducible exact blk_new (by first | (simp; done) | omega)) | (with_reducible refine blk_drew ?_) | (with_reducible apply put4_0) | (with_reducible apply put4_1) | (with_reducible apply put4_2) | (with_reducible apply put4_3) | (with_reducible refine blk_else (by omega) ?_) | (with_reducible refine blk_old ?_)))
            have XB : Below w.heap.size w v2 := by
              rw [hv2]
              (repeat' (first | (with_reducible exact HB2.out) | (with_reducible exact Below.refl _ _) | (with_reducible refine below_drewN _ ?_) | (with_reducible refine Below.drew ?_) | (with_reducible refine Below.setCell ?_ (by first | (simp; done) | omega) _) | (with_reducible refine Below.alloc ?_ (by have := HB2.out.size; simp; omega) _)))
            clear c0_ c1_ c2_ c3_ cf0_ cf1_ cf2_ cf3_ cn_ cm_ cl_
            clear hv2 Hc2 HB2
            refine (F3.out _).mono ?_
            rintro e w3 ⟨rfl, bb⟩
            have Hc3 := Lib.hid (blk_call bb Xc)
            have HB3 := Lib.hid (bel_onto XB bb XB.size)
            clear Xc XB bb
            obtain ⟨c0_, c1_, c2_, c3_, cf0_, cf1_, cf2_, cf3_⟩ := at4 Hc3.out
            have cn_ := ne_blk Hc3.out
            have cm_ := Ne.symm (a := Bc) cn_
            have cl_ := lt_blk Hc3.out
            go_wp2
            go_ret
            exact ⟨rfl, HB3.out⟩
        · have g3 : decide (-1099511627776 ≤ v) = false := decide_eq_false x3
          rw [show decide (CD.ok ⟨i, s, h, v⟩) = false from decide_eq_false (fun k => x3 k.2.2.2.1)]
          clear x0 x1 x2 x3
          go_enter Try.func57, Try.ntmps57
          go_wp2_with fail
          refine cl_gen ?_
          intro v0 hv0
          have XB : Below w.heap.size w v0 := by
            rw [hv0]
            (repeat' (first | (with_reducible exact Below.refl _ _) | (with_reducible assumption) | (with_reducible refine below_drewN _ ?_) | (with_reducible refine Below.drew ?_) | (with_reducible refine Below.setCell ?_ (by simp) _) | (with_reducible refine Below.alloc ?_ (by simp; try omega) _)))
          have Xc : v0.heap[w.heap.size]? = some (.cells #[.int .i64 i, .int .i64 s, .int .i64 h, .int .i64 v] 121 (0, 0)) := by
            rw [hv0]
            (repeat' (first | (with_reducible exact heap_alloc_new _ _) | (with_reducible exact blk_new (by first | (simp; done) | omega)) | (with_reducible refine blk_drew ?_) | (with_reducible apply put4_0) | (with_reducible apply put4_1) | (with_reducible apply put4_2) | (with_reducible apply put4_3) | (with_reducible refine blk_else (by omega) ?_) | (with_reducible refine blk_old ?_)))
          obtain ⟨Bc, hBc⟩ : ∃ x, x = w.heap.size := ⟨_, rfl⟩
          rw [← hBc] at Xc
          try rw [← hBc]
          have lec : w.heap.size ≤ Bc := by omega
          clear hBc
          clear hv0
          refine (F1.out _).mono ?_
          rintro e w1 ⟨rfl, bb⟩
          have Hc1 := Lib.hid (blk_call bb Xc)
          have HB1 := Lib.hid (bel_onto XB bb XB.size)
          clear Xc XB bb
          obtain ⟨c0_, c1_, c2_, c3_, cf0_, cf1_, cf2_, cf3_⟩ := at4 Hc1.out
          have cn_ := ne_blk Hc1.out
          have cm_ := Ne.symm (a := Bc) cn_
          have cl_ := lt_blk Hc1.out
          go_wp2_with fail
          refine cl_gen ?_
          intro v1 hv1
          have Xc : v1.heap[Bc]? = some (.cells #[.int .i64 i, .int .i64 s, .int .i64 h, .int .i64 v] 121 (0, 0)) := by
            rw [hv1]
            (repeat' (first | (with_reducible exact Hc1.out) | (with_reducible exact heap_alloc_new _ _) | (with_reducible exact blk_new (by first | (simp; done) | omega)) | (with_reducible refine blk_drew ?_) | (with_reducible apply put4_0) | (with_reducible apply put4_1) | (with_reducible apply put4_2) | (with_reducible apply put4_3) | (with_reducible refine blk_else (by omega) ?_) | (with_reducible refine blk_old ?_)))
          have XB : Below w.heap.size w v1 := by
            rw [hv1]
            (repeat' (first | (with_reducible exact HB1.out) | (with_reducible exact Below.refl _ _) | (with_reducible refine below_drewN _ ?_) | (with_reducible refine Below.drew ?_) | (with_reducible refine Below.setCell ?_ (by first | (simp; done) | omega) _) | (with_reducible refine Below.alloc ?_ (by have := HB1.out.size; simp; omega) _)))
          clear c0_ c1_ c2_ c3_ cf0_ cf1_ cf2_ cf3_ cn_ cm_ cl_
          clear hv1 Hc1 HB1
          refine (F2.out _).mono ?_
          rintro e w2 ⟨rfl, bb⟩
          have Hc2 := Lib.hid (blk_call bb Xc)
          have HB2 := Lib.hid (bel_onto XB bb XB.size)
          clear Xc XB bb
          obtain ⟨c0_, c1_, c2_, c3_, cf0_, cf1_, cf2_, cf3_⟩ := at4 Hc2.out
          have cn_ := ne_blk Hc2.out
          have cm_ := Ne.symm (a := Bc) cn_
          have cl_ := lt_blk Hc2.out
          go_wp2_with fail
          refine cl_gen ?_
          intro v2 hv2
          have Xc : v2.heap[Bc]? = some (.cells #[.int .i64 i, .int .i64 s, .int .i64 h, .int .i64 v] 121 (0, 0)) := by
            rw [hv2]
            (repeat' (first | (with_reducible exact Hc2.out) | (with_reducible exact heap_alloc_new _ _) | (with_reducible exact blk_new (by first | (simp; done) | omega)) | (with_reducible refine blk_drew ?_) | (with_reducible apply put4_0) | (with_reducible apply put4_1) | (with_reducible apply put4_2) | (with_reducible apply put4_3) | (with_reducible refine blk_else (by omega) ?_) | (with_reducible refine blk_old ?_)))
          have XB : Below w.heap.size w v2 := by
            rw [hv2]
            (repeat' (first | (with_reducible exact HB2.out) | (with_reducible exact Below.refl _ _) | (with_reducible refine below_drewN _ ?_) | (with_reducible refine Below.drew ?_) | (with_reducible refine Below.setCell ?_ (by first | (simp; done) | omega) _) | (with_reducible refine Below.alloc ?_ (by have := HB2.out.size; simp; omega) _)))
          clear c0_ c1_ c2_ c3_ cf0_ cf1_ cf2_ cf3_ cn_ cm_ cl_
          clear hv2 Hc2 HB2
          refine (F3.out _).mono ?_
          rintro e w3 ⟨rfl, bb⟩
          have Hc3 := Lib.hid (blk_call bb Xc)
          have HB3 := Lib.hid (bel_onto XB bb XB.size)
          clear Xc XB bb
          obtain ⟨c0_, c1_, c2_, c3_, cf0_, cf1_, cf2_, cf3_⟩ := at4 Hc3.out
          have cn_ := ne_blk Hc3.out
          have cm_ := Ne.symm (a := Bc) cn_
          have cl_ := lt_blk Hc3.out
          go_wp2
          go_ret
          exact ⟨rfl, HB3.out⟩
      · rw [decide_eq_false x2] at F3
        rw [show decide (CD.ok ⟨i, s, h, v⟩) = false from decide_eq_false (fun k => x2 k.2.2.1)]
        clear x0 x1 x2
        go_enter Try.func57, Try.ntmps57
        go_wp2_with fail
        refine cl_gen ?_
        intro v0 hv0
        have XB : Below w.heap.size w v0 := by
          rw [hv0]
          (repeat' (first | (with_reducible exact Below.refl _ _) | (with_reducible assumption) | (with_reducible refine below_drewN _ ?_) | (with_reducible refine Below.drew ?_) | (with_reducible refine Below.setCell ?_ (by simp) _) | (with_reducible refine Below.alloc ?_ (by simp; try omega) _)))
        have Xc : v0.heap[w.heap.size]? = some (.cells #[.int .i64 i, .int .i64 s, .int .i64 h, .int .i64 v] 121 (0, 0)) := by
          rw [hv0]
          (repeat' (first | (with_reducible exact heap_alloc_new _ _) | (with_reducible exact blk_new (by first | (simp; done) | omega)) | (with_reducible refine blk_drew ?_) | (with_reducible apply put4_0) | (with_reducible apply put4_1) | (with_reducible apply put4_2) | (with_reducible apply put4_3) | (with_reducible refine blk_else (by omega) ?_) | (with_reducible refine blk_old ?_)))
        obtain ⟨Bc, hBc⟩ : ∃ x, x = w.heap.size := ⟨_, rfl⟩
        rw [← hBc] at Xc
        try rw [← hBc]
        have lec : w.heap.size ≤ Bc := by omega
        clear hBc
        clear hv0
        refine (F1.out _).mono ?_
        rintro e w1 ⟨rfl, bb⟩
        have Hc1 := Lib.hid (blk_call bb Xc)
        have HB1 := Lib.hid (bel_onto XB bb XB.size)
        clear Xc XB bb
        obtain ⟨c0_, c1_, c2_, c3_, cf0_, cf1_, cf2_, cf3_⟩ := at4 Hc1.out
        have cn_ := ne_blk Hc1.out
        have cm_ := Ne.symm (a := Bc) cn_
        have cl_ := lt_blk Hc1.out
        go_wp2_with fail
        refine cl_gen ?_
        intro v1 hv1
        have Xc : v1.heap[Bc]? = some (.cells #[.int .i64 i, .int .i64 s, .int .i64 h, .int .i64 v] 121 (0, 0)) := by
          rw [hv1]
          (repeat' (first | (with_reducible exact Hc1.out) | (with_reducible exact heap_alloc_new _ _) | (with_reducible exact blk_new (by first | (simp; done) | omega)) | (with_reducible refine blk_drew ?_) | (with_reducible apply put4_0) | (with_reducible apply put4_1) | (with_reducible apply put4_2) | (with_reducible apply put4_3) | (with_reducible refine blk_else (by omega) ?_) | (with_reducible refine blk_old ?_)))
        have XB : Below w.heap.size w v1 := by
          rw [hv1]
          (repeat' (first | (with_reducible exact HB1.out) | (with_reducible exact Below.refl _ _) | (with_reducible refine below_drewN _ ?_) | (with_reducible refine Below.drew ?_) | (with_reducible refine Below.setCell ?_ (by first | (simp; done) | omega) _) | (with_reducible refine Below.alloc ?_ (by have := HB1.out.size; simp; omega) _)))
        clear c0_ c1_ c2_ c3_ cf0_ cf1_ cf2_ cf3_ cn_ cm_ cl_
        clear hv1 Hc1 HB1
        refine (F2.out _).mono ?_
        rintro e w2 ⟨rfl, bb⟩
        have Hc2 := Lib.hid (blk_call bb Xc)
        have HB2 := Lib.hid (bel_onto XB bb XB.size)
        clear Xc XB bb
        obtain ⟨c0_, c1_, c2_, c3_, cf0_, cf1_, cf2_, cf3_⟩ := at4 Hc2.out
        have cn_ := ne_blk Hc2.out
        have cm_ := Ne.symm (a := Bc) cn_
        have cl_ := lt_blk Hc2.out
        go_wp2_with fail
        refine cl_gen ?_
        intro v2 hv2
        have Xc : v2.heap[Bc]? = some (.cells #[.int .i64 i, .int .i64 s, .int .i64 h, .int .i64 v] 121 (0, 0)) := by
          rw [hv2]
          (repeat' (first | (with_reducible exact Hc2.out) | (with_reducible exact heap_alloc_new _ _) | (with_reducible exact blk_new (by first | (simp; done) | omega)) | (with_reducible refine blk_drew ?_) | (with_reducible apply put4_0) | (with_reducible apply put4_1) | (with_reducible apply put4_2) | (with_reducible apply put4_3) | (with_reducible refine blk_else (by omega) ?_) | (with_reducible refine blk_old ?_)))
        have XB : Below w.heap.size w v2 := by
          rw [hv2]
          (repeat' (first | (with_reducible exact HB2.out) | (with_reducible exact Below.refl _ _) | (with_reducible refine below_drewN _ ?_) | (with_reducible refine Below.drew ?_) | (with_reducible refine Below.setCell ?_ (by first | (simp; done) | omega) _) | (with_reducible refine Below.alloc ?_ (by have := HB2.out.size; simp; omega) _)))
        clear c0_ c1_ c2_ c3_ cf0_ cf1_ cf2_ cf3_ cn_ cm_ cl_
        clear hv2 Hc2 HB2
        refine (F3.out _).mono ?_
        rintro e w3 ⟨rfl, bb⟩
        have Hc3 := Lib.hid (blk_call bb Xc)
        have HB3 := Lib.hid (bel_onto XB bb XB.size)
        clear Xc XB bb
        obtain ⟨c0_, c1_, c2_, c3_, cf0_, cf1_, cf2_, cf3_⟩ := at4 Hc3.out
        have cn_ := ne_blk Hc3.out
        have cm_ := Ne.symm (a := Bc) cn_
        have cl_ := lt_blk Hc3.out
        go_wp2
        go_ret
        exact ⟨rfl, HB3.out⟩
    · rw [decide_eq_false x1] at F2
      rw [show decide (CD.ok ⟨i, s, h, v⟩) = false from decide_eq_false (fun k => x1 k.2.1)]
      clear x0 x1
      go_enter Try.func57, Try.ntmps57
      go_wp2_with fail
      refine cl_gen ?_
      intro v0 hv0
      have XB : Below w.heap.size w v0 := by
        rw [hv0]
        (repeat' (first | (with_reducible exact Below.refl _ _) | (with_reducible assumption) | (with_reducible refine below_drewN _ ?_) | (with_reducible refine Below.drew ?_) | (with_reducible refine Below.setCell ?_ (by simp) _) | (with_reducible refine Below.alloc ?_ (by simp; try omega) _)))
      have Xc : v0.heap[w.heap.size]? = some (.cells #[.int .i64 i, .int .i64 s, .int .i64 h, .int .i64 v] 121 (0, 0)) := by
        rw [hv0]
        (repeat' (first | (with_reducible exact heap_alloc_new _ _) | (with_reducible exact blk_new (by first | (simp; done) | omega)) | (with_reducible refine blk_drew ?_) | (with_reducible apply put4_0) | (with_reducible apply put4_1) | (with_reducible apply put4_2) | (with_reducible apply put4_3) | (with_reducible refine blk_else (by omega) ?_) | (with_reducible refine blk_old ?_)))
      obtain ⟨Bc, hBc⟩ : ∃ x, x = w.heap.size := ⟨_, rfl⟩
      rw [← hBc] at Xc
      try rw [← hBc]
      have lec : w.heap.size ≤ Bc := by omega
      clear hBc
      clear hv0
      refine (F1.out _).mono ?_
      rintro e w1 ⟨rfl, bb⟩
      have Hc1 := Lib.hid (blk_call bb Xc)
      have HB1 := Lib.hid (bel_onto XB bb XB.size)
      clear Xc XB bb
      obtain ⟨c0_, c1_, c2_, c3_, cf0_, cf1_, cf2_, cf3_⟩ := at4 Hc1.out
      have cn_ := ne_blk Hc1.out
      have cm_ := Ne.symm (a := Bc) cn_
      have cl_ := lt_blk Hc1.out
      go_wp2_with fail
      refine cl_gen ?_
      intro v1 hv1
      have Xc : v1.heap[Bc]? = some (.cells #[.int .i64 i, .int .i64 s, .int .i64 h, .int .i64 v] 121 (0, 0)) := by
        rw [hv1]
        (repeat' (first | (with_reducible exact Hc1.out) | (with_reducible exact heap_alloc_new _ _) | (with_reducible exact blk_new (by first | (simp; done) | omega)) | (with_reducible refine blk_drew ?_) | (with_reducible apply put4_0) | (with_reducible apply put4_1) | (with_reducible apply put4_2) | (with_reducible apply put4_3) | (with_reducible refine blk_else (by omega) ?_) | (with_reducible refine blk_old ?_)))
      have XB : Below w.heap.size w v1 := by
        rw [hv1]
        (repeat' (first | (with_reducible exact HB1.out) | (with_reducible exact Below.refl _ _) | (with_reducible refine below_drewN _ ?_) | (with_reducible refine Below.drew ?_) | (with_reducible refine Below.setCell ?_ (by first | (simp; done) | omega) _) | (with_reducible refine Below.alloc ?_ (by have := HB1.out.size; simp; omega) _)))
      clear c0_ c1_ c2_ c3_ cf0_ cf1_ cf2_ cf3_ cn_ cm_ cl_
      clear hv1 Hc1 HB1
      refine (F2.out _).mono ?_
      rintro e w2 ⟨rfl, bb⟩
      have Hc2 := Lib.hid (blk_call bb Xc)
      have HB2 := Lib.hid (bel_onto XB bb XB.size)
      clear Xc XB bb
      obtain ⟨c0_, c1_, c2_, c3_, cf0_, cf1_, cf2_, cf3_⟩ := at4 Hc2.out
      have cn_ := ne_blk Hc2.out
      have cm_ := Ne.symm (a := Bc) cn_
      have cl_ := lt_blk Hc2.out
      go_wp2
      go_ret
      exact ⟨rfl, HB2.out⟩
  · rw [decide_eq_false x0] at F1
    rw [show decide (CD.ok ⟨i, s, h, v⟩) = false from decide_eq_false (fun k => x0 k.1)]
    clear x0
    go_enter Try.func57, Try.ntmps57
    go_wp2_with fail
    refine cl_gen ?_
    intro v0 hv0
    have XB : Below w.heap.size w v0 := by
      rw [hv0]
      (repeat' (first | (with_reducible exact Below.refl _ _) | (with_reducible assumption) | (with_reducible refine below_drewN _ ?_) | (with_reducible refine Below.drew ?_) | (with_reducible refine Below.setCell ?_ (by simp) _) | (with_reducible refine Below.alloc ?_ (by simp; try omega) _)))
    have Xc : v0.heap[w.heap.size]? = some (.cells #[.int .i64 i, .int .i64 s, .int .i64 h, .int .i64 v] 121 (0, 0)) := by
      rw [hv0]
      (repeat' (first | (with_reducible exact heap_alloc_new _ _) | (with_reducible exact blk_new (by first | (simp; done) | omega)) | (with_reducible refine blk_drew ?_) | (with_reducible apply put4_0) | (with_reducible apply put4_1) | (with_reducible apply put4_2) | (with_reducible apply put4_3) | (with_reducible refine blk_else (by omega) ?_) | (with_reducible refine blk_old ?_)))
    obtain ⟨Bc, hBc⟩ : ∃ x, x = w.heap.size := ⟨_, rfl⟩
    rw [← hBc] at Xc
    try rw [← hBc]
    have lec : w.heap.size ≤ Bc := by omega
    clear hBc
    clear hv0
    refine (F1.out _).mono ?_
    rintro e w1 ⟨rfl, bb⟩
    have Hc1 := Lib.hid (blk_call bb Xc)
    have HB1 := Lib.hid (bel_onto XB bb XB.size)
    clear Xc XB bb
    obtain ⟨c0_, c1_, c2_, c3_, cf0_, cf1_, cf2_, cf3_⟩ := at4 Hc1.out
    have cn_ := ne_blk Hc1.out
    have cm_ := Ne.symm (a := Bc) cn_
    have cl_ := lt_blk Hc1.out
    go_wp2
    go_ret
    exact ⟨rfl, HB1.out⟩
end Go.Proofs.Ytcieggckmpabnaa
