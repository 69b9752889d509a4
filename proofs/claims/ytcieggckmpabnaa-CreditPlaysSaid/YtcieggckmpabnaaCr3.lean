/-
  What credit's May, Sent, Wait and New return for any class. No condition but that the bytes are a word.
-/
import Derived.Test.YtcieggckmpabnaaCr1
namespace Go.Proofs.Ytcieggckmpabnaa
set_option linter.unusedVariables false
set_option linter.unusedSimpArgs false
open Go.ChangeShapes Go.WideShapes Go.ChangeAt Go.RowKit
attribute [local go_sem] alloc_drewN setCell_drewN

set_option maxRecDepth 100000 in
set_option maxHeartbeats 4000000 in
theorem cr_may (c : CD) (w : World) :
    Calls Try.prog 63 #[c.val] w fun e w' => e = .returned (.bool c.may) ∧ Below w.heap.size w w' := by
  obtain ⟨i, s, h, v⟩ := c
  have CK := Lib.hid (fun W => (cr_check i s h v W).mono (fun e w' h => (⟨h.1, h.2 ▸ (Below.refl _ W).alloc (Nat.le_refl _) _⟩ : _ ∧ Below W.heap.size W w')))
  unfold CD.may
  by_cases hok : CD.ok ⟨i, s, h, v⟩
  · rw [show cre i s h v = 0 from if_pos hok] at CK
    by_cases hv : 0 ≤ v
    · rw [decide_eq_true (show CD.ok ⟨i, s, h, v⟩ ∧ 0 ≤ v from ⟨hok, hv⟩)]
      have gv : decide (0 ≤ v) = true := decide_eq_true hv
      simp only [cd_val]
      clear hok
      go_enter Try.func63, Try.ntmps63
      go_wp2_with fail
      refine cl_gen ?_
      intro v0 hv0
      have XB : Below w.heap.size w v0 := by
        rw [hv0]
        (repeat' (first | (with_reducible exact Below.refl _ _) | (with_reducible assumption) | (with_reducible refine below_drewN _ ?_) | (with_reducible refine Below.drew ?_) | (with_reducible refine Below.setCell ?_ (by simp) _) | (with_reducible refine Below.alloc ?_ (by simp; try omega) _)))
      have Xa : v0.heap[w.heap.size]? = some (.cells #[.int .i64 i, .int .i64 s, .int .i64 h, .int .i64 v] 123 (0, 0)) := by
        rw [hv0]
        (repeat' (first | (with_reducible exact heap_alloc_new _ _) | (with_reducible exact blk_new (by first | (simp; done) | omega)) | (with_reducible refine blk_drew ?_) | (with_reducible apply put1_0) | (with_reducible apply put2_0) | (with_reducible apply put2_1) | (with_reducible apply put3_0) | (with_reducible apply put3_1) | (with_reducible apply put3_2) | (with_reducible apply put4_0) | (with_reducible apply put4_1) | (with_reducible apply put4_2) | (with_reducible apply put4_3) | (with_reducible apply put5_0) | (with_reducible apply put5_1) | (with_reducible apply put5_2) | (with_reducible apply put5_3) | (with_reducible apply put5_4) | (with_reducible apply put6_0) | (with_reducible apply put6_1) | (with_reducible apply put6_2) | (with_reducible apply put6_3) | (with_reducible apply put6_4) | (with_reducible apply put6_5) | (with_reducible refine blk_else (by omega) ?_) | (with_reducible refine blk_old ?_)))
      obtain ⟨Ba, hBa⟩ : ∃ x, x = w.heap.size := ⟨_, rfl⟩
      rw [← hBa] at Xa
      try rw [← hBa]
      have lea : w.heap.size ≤ Ba := by omega
      clear hBa
      clear hv0
      refine (CK.out _).mono ?_
      rintro e w1 ⟨rfl, bb⟩
      have Ha1 := Lib.hid (blk_call bb Xa)
      have HB1 := Lib.hid (bel_onto XB bb XB.size)
      clear Xa XB bb
      obtain ⟨a0_, a1_, a2_, a3_, af0_, af1_, af2_, af3_⟩ := at4 Ha1.out
      have an_ := ne_blk Ha1.out
      have am_ := Ne.symm (a := Ba) an_
      have al_ := lt_blk Ha1.out
      go_wp2
      go_ret
      exact ⟨rfl, HB1.out⟩
    · rw [decide_eq_false (show ¬ (CD.ok ⟨i, s, h, v⟩ ∧ 0 ≤ v) from fun x => hv x.2)]
      have gv : decide (0 ≤ v) = false := decide_eq_false hv
      simp only [cd_val]
      clear hok hv
      go_enter Try.func63, Try.ntmps63
      go_wp2_with fail
      refine cl_gen ?_
      intro v0 hv0
      have XB : Below w.heap.size w v0 := by
        rw [hv0]
        (repeat' (first | (with_reducible exact Below.refl _ _) | (with_reducible assumption) | (with_reducible refine below_drewN _ ?_) | (with_reducible refine Below.drew ?_) | (with_reducible refine Below.setCell ?_ (by simp) _) | (with_reducible refine Below.alloc ?_ (by simp; try omega) _)))
      have Xa : v0.heap[w.heap.size]? = some (.cells #[.int .i64 i, .int .i64 s, .int .i64 h, .int .i64 v] 123 (0, 0)) := by
        rw [hv0]
        (repeat' (first | (with_reducible exact heap_alloc_new _ _) | (with_reducible exact blk_new (by first | (simp; done) | omega)) | (with_reducible refine blk_drew ?_) | (with_reducible apply put1_0) | (with_reducible apply put2_0) | (with_reducible apply put2_1) | (with_reducible apply put3_0) | (with_reducible apply put3_1) | (with_reducible apply put3_2) | (with_reducible apply put4_0) | (with_reducible apply put4_1) | (with_reducible apply put4_2) | (with_reducible apply put4_3) | (with_reducible apply put5_0) | (with_reducible apply put5_1) | (with_reducible apply put5_2) | (with_reducible apply put5_3) | (with_reducible apply put5_4) | (with_reducible apply put6_0) | (with_reducible apply put6_1) | (with_reducible apply put6_2) | (with_reducible apply put6_3) | (with_reducible apply put6_4) | (with_reducible apply put6_5) | (with_reducible refine blk_else (by omega) ?_) | (with_reducible refine blk_old ?_)))
      obtain ⟨Ba, hBa⟩ : ∃ x, x = w.heap.size := ⟨_, rfl⟩
      rw [← hBa] at Xa
      try rw [← hBa]
      have lea : w.heap.size ≤ Ba := by omega
      clear hBa
      clear hv0
      refine (CK.out _).mono ?_
      rintro e w1 ⟨rfl, bb⟩
      have Ha1 := Lib.hid (blk_call bb Xa)
      have HB1 := Lib.hid (bel_onto XB bb XB.size)
      clear Xa XB bb
      obtain ⟨a0_, a1_, a2_, a3_, af0_, af1_, af2_, af3_⟩ := at4 Ha1.out
      have an_ := ne_blk Ha1.out
      have am_ := Ne.symm (a := Ba) an_
      have al_ := lt_blk Ha1.out
      go_wp2
      go_ret
      exact ⟨rfl, HB1.out⟩
  · have k6 : cre i s h v = 6 := if_neg hok
    rw [k6] at CK
    rw [decide_eq_false (show ¬ (CD.ok ⟨i, s, h, v⟩ ∧ 0 ≤ v) from fun x => hok x.1)]
    simp only [cd_val]
    clear hok k6
    go_enter Try.func63, Try.ntmps63
    go_wp2_with fail
    refine cl_gen ?_
    intro v0 hv0
    have XB : Below w.heap.size w v0 := by
      rw [hv0]
      (repeat' (first | (with_reducible exact Below.refl _ _) | (with_reducible assumption) | (with_reducible refine below_drewN _ ?_) | (with_reducible refine Below.drew ?_) | (with_reducible refine Below.setCell ?_ (by simp) _) | (with_reducible refine Below.alloc ?_ (by simp; try omega) _)))
    have Xa : v0.heap[w.heap.size]? = some (.cells #[.int .i64 i, .int .i64 s, .int .i64 h, .int .i64 v] 123 (0, 0)) := by
      rw [hv0]
      (repeat' (first | (with_reducible exact heap_alloc_new _ _) | (with_reducible exact blk_new (by first | (simp; done) | omega)) | (with_reducible refine blk_drew ?_) | (with_reducible apply put1_0) | (with_reducible apply put2_0) | (with_reducible apply put2_1) | (with_reducible apply put3_0) | (with_reducible apply put3_1) | (with_reducible apply put3_2) | (with_reducible apply put4_0) | (with_reducible apply put4_1) | (with_reducible apply put4_2) | (with_reducible apply put4_3) | (with_reducible apply put5_0) | (with_reducible apply put5_1) | (with_reducible apply put5_2) | (with_reducible apply put5_3) | (with_reducible apply put5_4) | (with_reducible apply put6_0) | (with_reducible apply put6_1) | (with_reducible apply put6_2) | (with_reducible apply put6_3) | (with_reducible apply put6_4) | (with_reducible apply put6_5) | (with_reducible refine blk_else (by omega) ?_) | (with_reducible refine blk_old ?_)))
    obtain ⟨Ba, hBa⟩ : ∃ x, x = w.heap.size := ⟨_, rfl⟩
    rw [← hBa] at Xa
    try rw [← hBa]
    have lea : w.heap.size ≤ Ba := by omega
    clear hBa
    clear hv0
    refine (CK.out _).mono ?_
    rintro e w1 ⟨rfl, bb⟩
    have Ha1 := Lib.hid (blk_call bb Xa)
    have HB1 := Lib.hid (bel_onto XB bb XB.size)
    clear Xa XB bb
    obtain ⟨a0_, a1_, a2_, a3_, af0_, af1_, af2_, af3_⟩ := at4 Ha1.out
    have an_ := ne_blk Ha1.out
    have am_ := Ne.symm (a := Ba) an_
    have al_ := lt_blk Ha1.out
    go_wp2
    go_ret
    exact ⟨rfl, HB1.out⟩
set_option maxRecDepth 100000 in
set_option maxHeartbeats 4000000 in
theorem cr_wait (c : CD) (w : World) :
    Calls Try.prog 61 #[c.val] w fun e w' => e = .returned (.int .u64 c.wait) ∧ Below w.heap.size w w' := by
  obtain ⟨i, s, h, v⟩ := c
  have CK := Lib.hid (fun W => (cr_check i s h v W).mono (fun e w' h => (⟨h.1, h.2 ▸ (Below.refl _ W).alloc (Nat.le_refl _) _⟩ : _ ∧ Below W.heap.size W w')))
  unfold CD.wait
  by_cases hok : CD.ok ⟨i, s, h, v⟩
  · rw [show cre i s h v = 0 from if_pos hok] at CK
    rw [if_pos hok]
    obtain ⟨⟨i0, i1⟩, ⟨s0, s1⟩, ⟨h0, h1⟩, v0, v1⟩ := hok
    dsimp only at i0 i1 s0 s1 h0 h1 v0 v1
    have TT := Lib.hid (fun W => cr_to i s h v 0 i0 i1 v0 (by omega) (by decide) (by decide) W)
    dsimp only
    generalize need i v 0 = N at *
    simp only [cd_val]
    go_enter Try.func61, Try.ntmps61
    go_wp2_with fail
    refine cl_gen ?_
    intro v0 hv0
    have XB : Below w.heap.size w v0 := by
      rw [hv0]
      (repeat' (first | (with_reducible exact Below.refl _ _) | (with_reducible assumption) | (with_reducible refine below_drewN _ ?_) | (with_reducible refine Below.drew ?_) | (with_reducible refine Below.setCell ?_ (by simp) _) | (with_reducible refine Below.alloc ?_ (by simp; try omega) _)))
    have Xa : v0.heap[w.heap.size]? = some (.cells #[.int .i64 i, .int .i64 s, .int .i64 h, .int .i64 v] 123 (0, 0)) := by
      rw [hv0]
      (repeat' (first | (with_reducible exact heap_alloc_new _ _) | (with_reducible exact blk_new (by first | (simp; done) | omega)) | (with_reducible refine blk_drew ?_) | (with_reducible apply put1_0) | (with_reducible apply put2_0) | (with_reducible apply put2_1) | (with_reducible apply put3_0) | (with_reducible apply put3_1) | (with_reducible apply put3_2) | (with_reducible apply put4_0) | (with_reducible apply put4_1) | (with_reducible apply put4_2) | (with_reducible apply put4_3) | (with_reducible apply put5_0) | (with_reducible apply put5_1) | (with_reducible apply put5_2) | (with_reducible apply put5_3) | (with_reducible apply put5_4) | (with_reducible apply put6_0) | (with_reducible apply put6_1) | (with_reducible apply put6_2) | (with_reducible apply put6_3) | (with_reducible apply put6_4) | (with_reducible apply put6_5) | (with_reducible refine blk_else (by omega) ?_) | (with_reducible refine blk_old ?_)))
    obtain ⟨Ba, hBa⟩ : ∃ x, x = w.heap.size := ⟨_, rfl⟩
    rw [← hBa] at Xa
    try rw [← hBa]
    have lea : w.heap.size ≤ Ba := by omega
    clear hBa
    clear hv0
    refine (CK.out _).mono ?_
    rintro e w1 ⟨rfl, bb⟩
    have Ha1 := Lib.hid (blk_call bb Xa)
    have HB1 := Lib.hid (bel_onto XB bb XB.size)
    clear Xa XB bb
    obtain ⟨a0_, a1_, a2_, a3_, af0_, af1_, af2_, af3_⟩ := at4 Ha1.out
    have an_ := ne_blk Ha1.out
    have am_ := Ne.symm (a := Ba) an_
    have al_ := lt_blk Ha1.out
    go_wp2_with fail
    refine cl_gen ?_
    intro v1 hv1
    have Xa : v1.heap[Ba]? = some (.cells #[.int .i64 i, .int .i64 s, .int .i64 h, .int .i64 v] 123 (0, 0)) := by
      rw [hv1]
      (repeat' (first | (with_reducible exact Ha1.out) | (with_reducible exact heap_alloc_new _ _) | (with_reducible exact blk_new (by first | (simp; done) | omega)) | (with_reducible refine blk_drew ?_) | (with_reducible apply put1_0) | (with_reducible apply put2_0) | (with_reducible apply put2_1) | (with_reducible apply put3_0) | (with_reducible apply put3_1) | (with_reducible apply put3_2) | (with_reducible apply put4_0) | (with_reducible apply put4_1) | (with_reducible apply put4_2) | (with_reducible apply put4_3) | (with_reducible apply put5_0) | (with_reducible apply put5_1) | (with_reducible apply put5_2) | (with_reducible apply put5_3) | (with_reducible apply put5_4) | (with_reducible apply put6_0) | (with_reducible apply put6_1) | (with_reducible apply put6_2) | (with_reducible apply put6_3) | (with_reducible apply put6_4) | (with_reducible apply put6_5) | (with_reducible refine blk_else (by omega) ?_) | (with_reducible refine blk_old ?_)))
    have XB : Below w.heap.size w v1 := by
      rw [hv1]
      (repeat' (first | (with_reducible exact HB1.out) | (with_reducible exact Below.refl _ _) | (with_reducible refine below_drewN _ ?_) | (with_reducible refine Below.drew ?_) | (with_reducible refine Below.setCell ?_ (by first | (simp; done) | omega) _) | (with_reducible refine Below.alloc ?_ (by have := HB1.out.size; simp; omega) _)))
    clear a0_ a1_ a2_ a3_ af0_ af1_ af2_ af3_ an_ am_ al_
    clear hv1 Ha1 HB1
    refine (TT.out _).mono ?_
    rintro e w2 ⟨rfl, bb⟩
    have Ha2 := Lib.hid (blk_call bb Xa)
    have HB2 := Lib.hid (bel_onto XB bb XB.size)
    clear Xa XB bb
    obtain ⟨a0_, a1_, a2_, a3_, af0_, af1_, af2_, af3_⟩ := at4 Ha2.out
    have an_ := ne_blk Ha2.out
    have am_ := Ne.symm (a := Ba) an_
    have al_ := lt_blk Ha2.out
    go_wp2
    go_ret
    exact ⟨rfl, HB2.out⟩
  · have k6 : cre i s h v = 6 := if_neg hok
    rw [k6] at CK
    rw [if_neg hok]
    simp only [cd_val]
    clear hok k6
    go_enter Try.func61, Try.ntmps61
    go_wp2_with fail
    refine cl_gen ?_
    intro v0 hv0
    have XB : Below w.heap.size w v0 := by
      rw [hv0]
      (repeat' (first | (with_reducible exact Below.refl _ _) | (with_reducible assumption) | (with_reducible refine below_drewN _ ?_) | (with_reducible refine Below.drew ?_) | (with_reducible refine Below.setCell ?_ (by simp) _) | (with_reducible refine Below.alloc ?_ (by simp; try omega) _)))
    have Xa : v0.heap[w.heap.size]? = some (.cells #[.int .i64 i, .int .i64 s, .int .i64 h, .int .i64 v] 123 (0, 0)) := by
      rw [hv0]
      (repeat' (first | (with_reducible exact heap_alloc_new _ _) | (with_reducible exact blk_new (by first | (simp; done) | omega)) | (with_reducible refine blk_drew ?_) | (with_reducible apply put1_0) | (with_reducible apply put2_0) | (with_reducible apply put2_1) | (with_reducible apply put3_0) | (with_reducible apply put3_1) | (with_reducible apply put3_2) | (with_reducible apply put4_0) | (with_reducible apply put4_1) | (with_reducible apply put4_2) | (with_reducible apply put4_3) | (with_reducible apply put5_0) | (with_reducible apply put5_1) | (with_reducible apply put5_2) | (with_reducible apply put5_3) | (with_reducible apply put5_4) | (with_reducible apply put6_0) | (with_reducible apply put6_1) | (with_reducible apply put6_2) | (with_reducible apply put6_3) | (with_reducible apply put6_4) | (with_reducible apply put6_5) | (with_reducible refine blk_else (by omega) ?_) | (with_reducible refine blk_old ?_)))
    obtain ⟨Ba, hBa⟩ : ∃ x, x = w.heap.size := ⟨_, rfl⟩
    rw [← hBa] at Xa
    try rw [← hBa]
    have lea : w.heap.size ≤ Ba := by omega
    clear hBa
    clear hv0
    refine (CK.out _).mono ?_
    rintro e w1 ⟨rfl, bb⟩
    have Ha1 := Lib.hid (blk_call bb Xa)
    have HB1 := Lib.hid (bel_onto XB bb XB.size)
    clear Xa XB bb
    obtain ⟨a0_, a1_, a2_, a3_, af0_, af1_, af2_, af3_⟩ := at4 Ha1.out
    have an_ := ne_blk Ha1.out
    have am_ := Ne.symm (a := Ba) an_
    have al_ := lt_blk Ha1.out
    go_wp2
    go_ret
    exact ⟨rfl, HB1.out⟩
set_option maxRecDepth 100000 in
set_option maxHeartbeats 4000000 in
theorem cr_sent (c : CD) (n : Int) (n0 : 0 ≤ n) (n1 : n ≤ 18446744073709551615) (w : World) :
    Calls Try.prog 64 #[c.val, .int .u64 n] w fun e w' => e = .returned (.tuple #[(c.sent n).1.val, .bool (c.sent n).2]) ∧ Below w.heap.size w w' := by
  obtain ⟨i, s, h, v⟩ := c
  have CK := Lib.hid (fun W => (cr_check i s h v W).mono (fun e w' h => (⟨h.1, h.2 ▸ (Below.refl _ W).alloc (Nat.le_refl _) _⟩ : _ ∧ Below W.heap.size W w')))
  have MY := Lib.hid (fun W => cr_may ⟨i, s, h, v⟩ W)
  unfold CD.may at MY
  unfold CD.sent
  simp only [cd_val] at MY
  by_cases hok : CD.ok ⟨i, s, h, v⟩
  · rw [show cre i s h v = 0 from if_pos hok] at CK
    rw [if_pos hok]
    obtain ⟨⟨i0, i1⟩, ⟨s0, s1⟩, ⟨h0, h1⟩, v0, v1⟩ := id hok
    dsimp only at i0 i1 s0 s1 h0 h1 v0 v1 ⊢
    by_cases hv : 0 ≤ v
    · rw [decide_eq_true (show CD.ok ⟨i, s, h, v⟩ ∧ 0 ≤ v from ⟨hok, hv⟩)] at MY
      by_cases hn : n ≤ 65535
      · rw [if_pos ⟨hv, hn⟩]
        have gn : decide (65535 < n) = false := decide_eq_false (by omega)
        have q0 : 0 ≤ s * n := Int.mul_nonneg (by omega) n0
        have q1 : s * n ≤ 1048576 * 65535 := Int.mul_le_mul s1 hn n0 (by omega)
        have w1_ : IntKind.i64.wrap n = n := by rw [IntKind.wrap_i64]; omega
        have w2_ : IntKind.i64.wrap (s * n) = s * n := by rw [IntKind.wrap_i64]; omega
        have w3_ : IntKind.i64.wrap (v - s * n) = v - s * n := by rw [IntKind.wrap_i64]; omega
        obtain ⟨Q, hQ⟩ : ∃ Q, Q = s * n := ⟨_, rfl⟩
        dsimp only
        rw [← hQ] at q0 q1 w2_ w3_ ⊢
        have hQ' := hQ.symm
        simp only [cd_val]
        clear hok hQ
        go_enter Try.func64, Try.ntmps64
        go_wp2_with fail
        refine cl_gen ?_
        intro v0 hv0
        have XB : Below w.heap.size w v0 := by
          rw [hv0]
          (repeat' (first | (with_reducible exact Below.refl _ _) | (with_reducible assumption) | (with_reducible refine below_drewN _ ?_) | (with_reducible refine Below.drew ?_) | (with_reducible refine Below.setCell ?_ (by simp) _) | (with_reducible refine Below.alloc ?_ (by simp; try omega) _)))
        have Xa : v0.heap[w.heap.size]? = some (.cells #[.int .i64 i, .int .i64 s, .int .i64 h, .int .i64 v] 123 (0, 0)) := by
          rw [hv0]
          (repeat' (first | (with_reducible exact heap_alloc_new _ _) | (with_reducible exact blk_new (by first | (simp; done) | omega)) | (with_reducible refine blk_drew ?_) | (with_reducible apply put1_0) | (with_reducible apply put2_0) | (with_reducible apply put2_1) | (with_reducible apply put3_0) | (with_reducible apply put3_1) | (with_reducible apply put3_2) | (with_reducible apply put4_0) | (with_reducible apply put4_1) | (with_reducible apply put4_2) | (with_reducible apply put4_3) | (with_reducible apply put5_0) | (with_reducible apply put5_1) | (with_reducible apply put5_2) | (with_reducible apply put5_3) | (with_reducible apply put5_4) | (with_reducible apply put6_0) | (with_reducible apply put6_1) | (with_reducible apply put6_2) | (with_reducible apply put6_3) | (with_reducible apply put6_4) | (with_reducible apply put6_5) | (with_reducible refine blk_else (by omega) ?_) | (with_reducible refine blk_old ?_)))
        have Xz : v0.heap[w.heap.size + 1]? = some (.cells #[.int .i64 0, .int .i64 0, .int .i64 0, .int .i64 0] 123 (0, 0)) := by
          rw [hv0]
          (repeat' (first | (with_reducible exact heap_alloc_new _ _) | (with_reducible exact blk_new (by first | (simp; done) | omega)) | (with_reducible refine blk_drew ?_) | (with_reducible apply put1_0) | (with_reducible apply put2_0) | (with_reducible apply put2_1) | (with_reducible apply put3_0) | (with_reducible apply put3_1) | (with_reducible apply put3_2) | (with_reducible apply put4_0) | (with_reducible apply put4_1) | (with_reducible apply put4_2) | (with_reducible apply put4_3) | (with_reducible apply put5_0) | (with_reducible apply put5_1) | (with_reducible apply put5_2) | (with_reducible apply put5_3) | (with_reducible apply put5_4) | (with_reducible apply put6_0) | (with_reducible apply put6_1) | (with_reducible apply put6_2) | (with_reducible apply put6_3) | (with_reducible apply put6_4) | (with_reducible apply put6_5) | (with_reducible refine blk_else (by omega) ?_) | (with_reducible refine blk_old ?_)))
        obtain ⟨Bz, hBz⟩ : ∃ x, x = w.heap.size + 1 := ⟨_, rfl⟩
        rw [← hBz] at Xz
        try rw [← hBz]
        have lez : w.heap.size ≤ Bz := by omega
        obtain ⟨Ba, hBa⟩ : ∃ x, x = w.heap.size := ⟨_, rfl⟩
        rw [← hBa] at Xa
        try rw [← hBa]
        have naz : ¬ Ba = Bz := by omega
        have nza : ¬ Bz = Ba := fun h => naz h.symm
        have lea : w.heap.size ≤ Ba := by omega
        clear hBa hBz
        clear hv0
        refine (CK.out _).mono ?_
        rintro e w1 ⟨rfl, bb⟩
        have Hz1 := Lib.hid (blk_call bb Xz)
        have Ha1 := Lib.hid (blk_call bb Xa)
        have HB1 := Lib.hid (bel_onto XB bb XB.size)
        clear Xz Xa XB bb
        obtain ⟨z0_, z1_, z2_, z3_, zf0_, zf1_, zf2_, zf3_⟩ := at4 Hz1.out
        have zn_ := ne_blk Hz1.out
        have zm_ := Ne.symm (a := Bz) zn_
        have zl_ := lt_blk Hz1.out
        obtain ⟨a0_, a1_, a2_, a3_, af0_, af1_, af2_, af3_⟩ := at4 Ha1.out
        have an_ := ne_blk Ha1.out
        have am_ := Ne.symm (a := Ba) an_
        have al_ := lt_blk Ha1.out
        go_wp2_with fail
        refine cl_gen ?_
        intro v1 hv1
        have Xz : v1.heap[Bz]? = some (.cells #[.int .i64 0, .int .i64 0, .int .i64 0, .int .i64 0] 123 (0, 0)) := by
          rw [hv1]
          (repeat' (first | (with_reducible exact Hz1.out) | (with_reducible exact Ha1.out) | (with_reducible exact heap_alloc_new _ _) | (with_reducible exact blk_new (by first | (simp; done) | omega)) | (with_reducible refine blk_drew ?_) | (with_reducible apply put1_0) | (with_reducible apply put2_0) | (with_reducible apply put2_1) | (with_reducible apply put3_0) | (with_reducible apply put3_1) | (with_reducible apply put3_2) | (with_reducible apply put4_0) | (with_reducible apply put4_1) | (with_reducible apply put4_2) | (with_reducible apply put4_3) | (with_reducible apply put5_0) | (with_reducible apply put5_1) | (with_reducible apply put5_2) | (with_reducible apply put5_3) | (with_reducible apply put5_4) | (with_reducible apply put6_0) | (with_reducible apply put6_1) | (with_reducible apply put6_2) | (with_reducible apply put6_3) | (with_reducible apply put6_4) | (with_reducible apply put6_5) | (with_reducible refine blk_else (by omega) ?_) | (with_reducible refine blk_old ?_)))
        have Xa : v1.heap[Ba]? = some (.cells #[.int .i64 i, .int .i64 s, .int .i64 h, .int .i64 v] 123 (0, 0)) := by
          rw [hv1]
          (repeat' (first | (with_reducible exact Hz1.out) | (with_reducible exact Ha1.out) | (with_reducible exact heap_alloc_new _ _) | (with_reducible exact blk_new (by first | (simp; done) | omega)) | (with_reducible refine blk_drew ?_) | (with_reducible apply put1_0) | (with_reducible apply put2_0) | (with_reducible apply put2_1) | (with_reducible apply put3_0) | (with_reducible apply put3_1) | (with_reducible apply put3_2) | (with_reducible apply put4_0) | (with_reducible apply put4_1) | (with_reducible apply put4_2) | (with_reducible apply put4_3) | (with_reducible apply put5_0) | (with_reducible apply put5_1) | (with_reducible apply put5_2) | (with_reducible apply put5_3) | (with_reducible apply put5_4) | (with_reducible apply put6_0) | (with_reducible apply put6_1) | (with_reducible apply put6_2) | (with_reducible apply put6_3) | (with_reducible apply put6_4) | (with_reducible apply put6_5) | (with_reducible refine blk_else (by omega) ?_) | (with_reducible refine blk_old ?_)))
        have XB : Below w.heap.size w v1 := by
          rw [hv1]
          (repeat' (first | (with_reducible exact HB1.out) | (with_reducible exact Below.refl _ _) | (with_reducible refine below_drewN _ ?_) | (with_reducible refine Below.drew ?_) | (with_reducible refine Below.setCell ?_ (by first | (simp; done) | omega) _) | (with_reducible refine Below.alloc ?_ (by have := HB1.out.size; simp; omega) _)))
        clear z0_ z1_ z2_ z3_ zf0_ zf1_ zf2_ zf3_ zn_ zm_ zl_ a0_ a1_ a2_ a3_ af0_ af1_ af2_ af3_ an_ am_ al_
        clear hv1 Hz1 Ha1 HB1
        refine (MY.out _).mono ?_
        rintro e w2 ⟨rfl, bb⟩
        have Hz2 := Lib.hid (blk_call bb Xz)
        have Ha2 := Lib.hid (blk_call bb Xa)
        have HB2 := Lib.hid (bel_onto XB bb XB.size)
        clear Xz Xa XB bb
        obtain ⟨z0_, z1_, z2_, z3_, zf0_, zf1_, zf2_, zf3_⟩ := at4 Hz2.out
        have zn_ := ne_blk Hz2.out
        have zm_ := Ne.symm (a := Bz) zn_
        have zl_ := lt_blk Hz2.out
        obtain ⟨a0_, a1_, a2_, a3_, af0_, af1_, af2_, af3_⟩ := at4 Ha2.out
        have an_ := ne_blk Ha2.out
        have am_ := Ne.symm (a := Ba) an_
        have al_ := lt_blk Ha2.out
        go_wp2
        (try simp only [Exit.inBlock, Exit.then])
        refine bp_gen ?_
        intro v2 hv2
        have Xz : v2.heap[Bz]? = some (.cells #[.int .i64 i, .int .i64 s, .int .i64 h, .int .i64 (v - Q)] 123 (0, 0)) := by
          rw [hv2]
          (repeat' (first | (with_reducible exact Hz2.out) | (with_reducible exact heap_alloc_new _ _) | (with_reducible exact blk_new (by first | (simp; done) | omega)) | (with_reducible refine blk_drew ?_) | (with_reducible apply put1_0) | (with_reducible apply put2_0) | (with_reducible apply put2_1) | (with_reducible apply put3_0) | (with_reducible apply put3_1) | (with_reducible apply put3_2) | (with_reducible apply put4_0) | (with_reducible apply put4_1) | (with_reducible apply put4_2) | (with_reducible apply put4_3) | (with_reducible apply put5_0) | (with_reducible apply put5_1) | (with_reducible apply put5_2) | (with_reducible apply put5_3) | (with_reducible apply put5_4) | (with_reducible apply put6_0) | (with_reducible apply put6_1) | (with_reducible apply put6_2) | (with_reducible apply put6_3) | (with_reducible apply put6_4) | (with_reducible apply put6_5) | (with_reducible refine blk_else (by omega) ?_) | (with_reducible refine blk_old ?_)))
        have XB : Below w.heap.size w v2 := by
          rw [hv2]
          (repeat' (first | (with_reducible exact HB2.out) | (with_reducible exact Below.refl _ _) | (with_reducible refine below_drewN _ ?_) | (with_reducible refine Below.drew ?_) | (with_reducible refine Below.setCell ?_ (by first | (simp; done) | omega) _) | (with_reducible refine Below.alloc ?_ (by have := HB2.out.size; simp; omega) _)))
        clear z0_ z1_ z2_ z3_ zf0_ zf1_ zf2_ zf3_ zn_ zm_ zl_ a0_ a1_ a2_ a3_ af0_ af1_ af2_ af3_ an_ am_ al_
        clear hv2 Hz2 Ha2 HB2
        obtain ⟨z0_, z1_, z2_, z3_, -⟩ := at4 Xz
        refine bodyPost_ret (v := .tuple #[.agg #[.int .i64 i, .int .i64 s, .int .i64 h, .int .i64 (v - Q)], .bool true]) (by simp [results, Try.results64, go_sem, z0_, z1_, z2_, z3_]) rfl ⟨rfl, XB⟩
      · rw [if_neg (fun x => hn x.2)]
        have gn : decide (65535 < n) = true := decide_eq_true (by omega)
        simp only [cd_val]
        clear hok hn
        go_enter Try.func64, Try.ntmps64
        go_wp2_with fail
        refine cl_gen ?_
        intro v0 hv0
        have XB : Below w.heap.size w v0 := by
          rw [hv0]
          (repeat' (first | (with_reducible exact Below.refl _ _) | (with_reducible assumption) | (with_reducible refine below_drewN _ ?_) | (with_reducible refine Below.drew ?_) | (with_reducible refine Below.setCell ?_ (by simp) _) | (with_reducible refine Below.alloc ?_ (by simp; try omega) _)))
        have Xa : v0.heap[w.heap.size]? = some (.cells #[.int .i64 i, .int .i64 s, .int .i64 h, .int .i64 v] 123 (0, 0)) := by
          rw [hv0]
          (repeat' (first | (with_reducible exact heap_alloc_new _ _) | (with_reducible exact blk_new (by first | (simp; done) | omega)) | (with_reducible refine blk_drew ?_) | (with_reducible apply put1_0) | (with_reducible apply put2_0) | (with_reducible apply put2_1) | (with_reducible apply put3_0) | (with_reducible apply put3_1) | (with_reducible apply put3_2) | (with_reducible apply put4_0) | (with_reducible apply put4_1) | (with_reducible apply put4_2) | (with_reducible apply put4_3) | (with_reducible apply put5_0) | (with_reducible apply put5_1) | (with_reducible apply put5_2) | (with_reducible apply put5_3) | (with_reducible apply put5_4) | (with_reducible apply put6_0) | (with_reducible apply put6_1) | (with_reducible apply put6_2) | (with_reducible apply put6_3) | (with_reducible apply put6_4) | (with_reducible apply put6_5) | (with_reducible refine blk_else (by omega) ?_) | (with_reducible refine blk_old ?_)))
        have Xz : v0.heap[w.heap.size + 1]? = some (.cells #[.int .i64 0, .int .i64 0, .int .i64 0, .int .i64 0] 123 (0, 0)) := by
          rw [hv0]
          (repeat' (first | (with_reducible exact heap_alloc_new _ _) | (with_reducible exact blk_new (by first | (simp; done) | omega)) | (with_reducible refine blk_drew ?_) | (with_reducible apply put1_0) | (with_reducible apply put2_0) | (with_reducible apply put2_1) | (with_reducible apply put3_0) | (with_reducible apply put3_1) | (with_reducible apply put3_2) | (with_reducible apply put4_0) | (with_reducible apply put4_1) | (with_reducible apply put4_2) | (with_reducible apply put4_3) | (with_reducible apply put5_0) | (with_reducible apply put5_1) | (with_reducible apply put5_2) | (with_reducible apply put5_3) | (with_reducible apply put5_4) | (with_reducible apply put6_0) | (with_reducible apply put6_1) | (with_reducible apply put6_2) | (with_reducible apply put6_3) | (with_reducible apply put6_4) | (with_reducible apply put6_5) | (with_reducible refine blk_else (by omega) ?_) | (with_reducible refine blk_old ?_)))
        obtain ⟨Bz, hBz⟩ : ∃ x, x = w.heap.size + 1 := ⟨_, rfl⟩
        rw [← hBz] at Xz
        try rw [← hBz]
        have lez : w.heap.size ≤ Bz := by omega
        obtain ⟨Ba, hBa⟩ : ∃ x, x = w.heap.size := ⟨_, rfl⟩
        rw [← hBa] at Xa
        try rw [← hBa]
        have naz : ¬ Ba = Bz := by omega
        have nza : ¬ Bz = Ba := fun h => naz h.symm
        have lea : w.heap.size ≤ Ba := by omega
        clear hBa hBz
        clear hv0
        refine (CK.out _).mono ?_
        rintro e w1 ⟨rfl, bb⟩
        have Hz1 := Lib.hid (blk_call bb Xz)
        have Ha1 := Lib.hid (blk_call bb Xa)
        have HB1 := Lib.hid (bel_onto XB bb XB.size)
        clear Xz Xa XB bb
        obtain ⟨z0_, z1_, z2_, z3_, zf0_, zf1_, zf2_, zf3_⟩ := at4 Hz1.out
        have zn_ := ne_blk Hz1.out
        have zm_ := Ne.symm (a := Bz) zn_
        have zl_ := lt_blk Hz1.out
        obtain ⟨a0_, a1_, a2_, a3_, af0_, af1_, af2_, af3_⟩ := at4 Ha1.out
        have an_ := ne_blk Ha1.out
        have am_ := Ne.symm (a := Ba) an_
        have al_ := lt_blk Ha1.out
        go_wp2_with fail
        refine cl_gen ?_
        intro v1 hv1
        have Xz : v1.heap[Bz]? = some (.cells #[.int .i64 0, .int .i64 0, .int .i64 0, .int .i64 0] 123 (0, 0)) := by
          rw [hv1]
          (repeat' (first | (with_reducible exact Hz1.out) | (with_reducible exact Ha1.out) | (with_reducible exact heap_alloc_new _ _) | (with_reducible exact blk_new (by first | (simp; done) | omega)) | (with_reducible refine blk_drew ?_) | (with_reducible apply put1_0) | (with_reducible apply put2_0) | (with_reducible apply put2_1) | (with_reducible apply put3_0) | (with_reducible apply put3_1) | (with_reducible apply put3_2) | (with_reducible apply put4_0) | (with_reducible apply put4_1) | (with_reducible apply put4_2) | (with_reducible apply put4_3) | (with_reducible apply put5_0) | (with_reducible apply put5_1) | (with_reducible apply put5_2) | (with_reducible apply put5_3) | (with_reducible apply put5_4) | (with_reducible apply put6_0) | (with_reducible apply put6_1) | (with_reducible apply put6_2) | (with_reducible apply put6_3) | (with_reducible apply put6_4) | (with_reducible apply put6_5) | (with_reducible refine blk_else (by omega) ?_) | (with_reducible refine blk_old ?_)))
        have Xa : v1.heap[Ba]? = some (.cells #[.int .i64 i, .int .i64 s, .int .i64 h, .int .i64 v] 123 (0, 0)) := by
          rw [hv1]
          (repeat' (first | (with_reducible exact Hz1.out) | (with_reducible exact Ha1.out) | (with_reducible exact heap_alloc_new _ _) | (with_reducible exact blk_new (by first | (simp; done) | omega)) | (with_reducible refine blk_drew ?_) | (with_reducible apply put1_0) | (with_reducible apply put2_0) | (with_reducible apply put2_1) | (with_reducible apply put3_0) | (with_reducible apply put3_1) | (with_reducible apply put3_2) | (with_reducible apply put4_0) | (with_reducible apply put4_1) | (with_reducible apply put4_2) | (with_reducible apply put4_3) | (with_reducible apply put5_0) | (with_reducible apply put5_1) | (with_reducible apply put5_2) | (with_reducible apply put5_3) | (with_reducible apply put5_4) | (with_reducible apply put6_0) | (with_reducible apply put6_1) | (with_reducible apply put6_2) | (with_reducible apply put6_3) | (with_reducible apply put6_4) | (with_reducible apply put6_5) | (with_reducible refine blk_else (by omega) ?_) | (with_reducible refine blk_old ?_)))
        have XB : Below w.heap.size w v1 := by
          rw [hv1]
          (repeat' (first | (with_reducible exact HB1.out) | (with_reducible exact Below.refl _ _) | (with_reducible refine below_drewN _ ?_) | (with_reducible refine Below.drew ?_) | (with_reducible refine Below.setCell ?_ (by first | (simp; done) | omega) _) | (with_reducible refine Below.alloc ?_ (by have := HB1.out.size; simp; omega) _)))
        clear z0_ z1_ z2_ z3_ zf0_ zf1_ zf2_ zf3_ zn_ zm_ zl_ a0_ a1_ a2_ a3_ af0_ af1_ af2_ af3_ an_ am_ al_
        clear hv1 Hz1 Ha1 HB1
        refine (MY.out _).mono ?_
        rintro e w2 ⟨rfl, bb⟩
        have Hz2 := Lib.hid (blk_call bb Xz)
        have Ha2 := Lib.hid (blk_call bb Xa)
        have HB2 := Lib.hid (bel_onto XB bb XB.size)
        clear Xz Xa XB bb
        obtain ⟨z0_, z1_, z2_, z3_, zf0_, zf1_, zf2_, zf3_⟩ := at4 Hz2.out
        have zn_ := ne_blk Hz2.out
        have zm_ := Ne.symm (a := Bz) zn_
        have zl_ := lt_blk Hz2.out
        obtain ⟨a0_, a1_, a2_, a3_, af0_, af1_, af2_, af3_⟩ := at4 Ha2.out
        have an_ := ne_blk Ha2.out
        have am_ := Ne.symm (a := Ba) an_
        have al_ := lt_blk Ha2.out
        go_wp2
        (try simp only [Exit.inBlock, Exit.then])
        refine bp_gen ?_
        intro v2 hv2
        have Xz : v2.heap[Bz]? = some (.cells #[.int .i64 i, .int .i64 s, .int .i64 h, .int .i64 v] 123 (0, 0)) := by
          rw [hv2]
          (repeat' (first | (with_reducible exact Hz2.out) | (with_reducible exact heap_alloc_new _ _) | (with_reducible exact blk_new (by first | (simp; done) | omega)) | (with_reducible refine blk_drew ?_) | (with_reducible apply put1_0) | (with_reducible apply put2_0) | (with_reducible apply put2_1) | (with_reducible apply put3_0) | (with_reducible apply put3_1) | (with_reducible apply put3_2) | (with_reducible apply put4_0) | (with_reducible apply put4_1) | (with_reducible apply put4_2) | (with_reducible apply put4_3) | (with_reducible apply put5_0) | (with_reducible apply put5_1) | (with_reducible apply put5_2) | (with_reducible apply put5_3) | (with_reducible apply put5_4) | (with_reducible apply put6_0) | (with_reducible apply put6_1) | (with_reducible apply put6_2) | (with_reducible apply put6_3) | (with_reducible apply put6_4) | (with_reducible apply put6_5) | (with_reducible refine blk_else (by omega) ?_) | (with_reducible refine blk_old ?_)))
        have XB : Below w.heap.size w v2 := by
          rw [hv2]
          (repeat' (first | (with_reducible exact HB2.out) | (with_reducible exact Below.refl _ _) | (with_reducible refine below_drewN _ ?_) | (with_reducible refine Below.drew ?_) | (with_reducible refine Below.setCell ?_ (by first | (simp; done) | omega) _) | (with_reducible refine Below.alloc ?_ (by have := HB2.out.size; simp; omega) _)))
        clear z0_ z1_ z2_ z3_ zf0_ zf1_ zf2_ zf3_ zn_ zm_ zl_ a0_ a1_ a2_ a3_ af0_ af1_ af2_ af3_ an_ am_ al_
        clear hv2 Hz2 Ha2 HB2
        obtain ⟨z0_, z1_, z2_, z3_, -⟩ := at4 Xz
        refine bodyPost_ret (v := .tuple #[.agg #[.int .i64 i, .int .i64 s, .int .i64 h, .int .i64 v], .bool false]) (by simp [results, Try.results64, go_sem, z0_, z1_, z2_, z3_]) rfl ⟨rfl, XB⟩
    · rw [decide_eq_false (show ¬ (CD.ok ⟨i, s, h, v⟩ ∧ 0 ≤ v) from fun x => hv x.2)] at MY
      rw [if_neg (fun x => hv x.1)]
      simp only [cd_val]
      clear hok hv
      go_enter Try.func64, Try.ntmps64
      go_wp2_with fail
      refine cl_gen ?_
      intro v0 hv0
      have XB : Below w.heap.size w v0 := by
        rw [hv0]
        (repeat' (first | (with_reducible exact Below.refl _ _) | (with_reducible assumption) | (with_reducible refine below_drewN _ ?_) | (with_reducible refine Below.drew ?_) | (with_reducible refine Below.setCell ?_ (by simp) _) | (with_reducible refine Below.alloc ?_ (by simp; try omega) _)))
      have Xa : v0.heap[w.heap.size]? = some (.cells #[.int .i64 i, .int .i64 s, .int .i64 h, .int .i64 v] 123 (0, 0)) := by
        rw [hv0]
        (repeat' (first | (with_reducible exact heap_alloc_new _ _) | (with_reducible exact blk_new (by first | (simp; done) | omega)) | (with_reducible refine blk_drew ?_) | (with_reducible apply put1_0) | (with_reducible apply put2_0) | (with_reducible apply put2_1) | (with_reducible apply put3_0) | (with_reducible apply put3_1) | (with_reducible apply put3_2) | (with_reducible apply put4_0) | (with_reducible apply put4_1) | (with_reducible apply put4_2) | (with_reducible apply put4_3) | (with_reducible apply put5_0) | (with_reducible apply put5_1) | (with_reducible apply put5_2) | (with_reducible apply put5_3) | (with_reducible apply put5_4) | (with_reducible apply put6_0) | (with_reducible apply put6_1) | (with_reducible apply put6_2) | (with_reducible apply put6_3) | (with_reducible apply put6_4) | (with_reducible apply put6_5) | (with_reducible refine blk_else (by omega) ?_) | (with_reducible refine blk_old ?_)))
      have Xz : v0.heap[w.heap.size + 1]? = some (.cells #[.int .i64 0, .int .i64 0, .int .i64 0, .int .i64 0] 123 (0, 0)) := by
        rw [hv0]
        (repeat' (first | (with_reducible exact heap_alloc_new _ _) | (with_reducible exact blk_new (by first | (simp; done) | omega)) | (with_reducible refine blk_drew ?_) | (with_reducible apply put1_0) | (with_reducible apply put2_0) | (with_reducible apply put2_1) | (with_reducible apply put3_0) | (with_reducible apply put3_1) | (with_reducible apply put3_2) | (with_reducible apply put4_0) | (with_reducible apply put4_1) | (with_reducible apply put4_2) | (with_reducible apply put4_3) | (with_reducible apply put5_0) | (with_reducible apply put5_1) | (with_reducible apply put5_2) | (with_reducible apply put5_3) | (with_reducible apply put5_4) | (with_reducible apply put6_0) | (with_reducible apply put6_1) | (with_reducible apply put6_2) | (with_reducible apply put6_3) | (with_reducible apply put6_4) | (with_reducible apply put6_5) | (with_reducible refine blk_else (by omega) ?_) | (with_reducible refine blk_old ?_)))
      obtain ⟨Bz, hBz⟩ : ∃ x, x = w.heap.size + 1 := ⟨_, rfl⟩
      rw [← hBz] at Xz
      try rw [← hBz]
      have lez : w.heap.size ≤ Bz := by omega
      obtain ⟨Ba, hBa⟩ : ∃ x, x = w.heap.size := ⟨_, rfl⟩
      rw [← hBa] at Xa
      try rw [← hBa]
      have naz : ¬ Ba = Bz := by omega
      have nza : ¬ Bz = Ba := fun h => naz h.symm
      have lea : w.heap.size ≤ Ba := by omega
      clear hBa hBz
      clear hv0
      refine (CK.out _).mono ?_
      rintro e w1 ⟨rfl, bb⟩
      have Hz1 := Lib.hid (blk_call bb Xz)
      have Ha1 := Lib.hid (blk_call bb Xa)
      have HB1 := Lib.hid (bel_onto XB bb XB.size)
      clear Xz Xa XB bb
      obtain ⟨z0_, z1_, z2_, z3_, zf0_, zf1_, zf2_, zf3_⟩ := at4 Hz1.out
      have zn_ := ne_blk Hz1.out
      have zm_ := Ne.symm (a := Bz) zn_
      have zl_ := lt_blk Hz1.out
      obtain ⟨a0_, a1_, a2_, a3_, af0_, af1_, af2_, af3_⟩ := at4 Ha1.out
      have an_ := ne_blk Ha1.out
      have am_ := Ne.symm (a := Ba) an_
      have al_ := lt_blk Ha1.out
      go_wp2_with fail
      refine cl_gen ?_
      intro v1 hv1
      have Xz : v1.heap[Bz]? = some (.cells #[.int .i64 0, .int .i64 0, .int .i64 0, .int .i64 0] 123 (0, 0)) := by
        rw [hv1]
        (repeat' (first | (with_reducible exact Hz1.out) | (with_reducible exact Ha1.out) | (with_reducible exact heap_alloc_new _ _) | (with_reducible exact blk_new (by first | (simp; done) | omega)) | (with_reducible refine blk_drew ?_) | (with_reducible apply put1_0) | (with_reducible apply put2_0) | (with_reducible apply put2_1) | (with_reducible apply put3_0) | (with_reducible apply put3_1) | (with_reducible apply put3_2) | (with_reducible apply put4_0) | (with_reducible apply put4_1) | (with_reducible apply put4_2) | (with_reducible apply put4_3) | (with_reducible apply put5_0) | (with_reducible apply put5_1) | (with_reducible apply put5_2) | (with_reducible apply put5_3) | (with_reducible apply put5_4) | (with_reducible apply put6_0) | (with_reducible apply put6_1) | (with_reducible apply put6_2) | (with_reducible apply put6_3) | (with_reducible apply put6_4) | (with_reducible apply put6_5) | (with_reducible refine blk_else (by omega) ?_) | (with_reducible refine blk_old ?_)))
      have Xa : v1.heap[Ba]? = some (.cells #[.int .i64 i, .int .i64 s, .int .i64 h, .int .i64 v] 123 (0, 0)) := by
        rw [hv1]
        (repeat' (first | (with_reducible exact Hz1.out) | (with_reducible exact Ha1.out) | (with_reducible exact heap_alloc_new _ _) | (with_reducible exact blk_new (by first | (simp; done) | omega)) | (with_reducible refine blk_drew ?_) | (with_reducible apply put1_0) | (with_reducible apply put2_0) | (with_reducible apply put2_1) | (with_reducible apply put3_0) | (with_reducible apply put3_1) | (with_reducible apply put3_2) | (with_reducible apply put4_0) | (with_reducible apply put4_1) | (with_reducible apply put4_2) | (with_reducible apply put4_3) | (with_reducible apply put5_0) | (with_reducible apply put5_1) | (with_reducible apply put5_2) | (with_reducible apply put5_3) | (with_reducible apply put5_4) | (with_reducible apply put6_0) | (with_reducible apply put6_1) | (with_reducible apply put6_2) | (with_reducible apply put6_3) | (with_reducible apply put6_4) | (with_reducible apply put6_5) | (with_reducible refine blk_else (by omega) ?_) | (with_reducible refine blk_old ?_)))
      have XB : Below w.heap.size w v1 := by
        rw [hv1]
        (repeat' (first | (with_reducible exact HB1.out) | (with_reducible exact Below.refl _ _) | (with_reducible refine below_drewN _ ?_) | (with_reducible refine Below.drew ?_) | (with_reducible refine Below.setCell ?_ (by first | (simp; done) | omega) _) | (with_reducible refine Below.alloc ?_ (by have := HB1.out.size; simp; omega) _)))
      clear z0_ z1_ z2_ z3_ zf0_ zf1_ zf2_ zf3_ zn_ zm_ zl_ a0_ a1_ a2_ a3_ af0_ af1_ af2_ af3_ an_ am_ al_
      clear hv1 Hz1 Ha1 HB1
      refine (MY.out _).mono ?_
      rintro e w2 ⟨rfl, bb⟩
      have Hz2 := Lib.hid (blk_call bb Xz)
      have Ha2 := Lib.hid (blk_call bb Xa)
      have HB2 := Lib.hid (bel_onto XB bb XB.size)
      clear Xz Xa XB bb
      obtain ⟨z0_, z1_, z2_, z3_, zf0_, zf1_, zf2_, zf3_⟩ := at4 Hz2.out
      have zn_ := ne_blk Hz2.out
      have zm_ := Ne.symm (a := Bz) zn_
      have zl_ := lt_blk Hz2.out
      obtain ⟨a0_, a1_, a2_, a3_, af0_, af1_, af2_, af3_⟩ := at4 Ha2.out
      have an_ := ne_blk Ha2.out
      have am_ := Ne.symm (a := Ba) an_
      have al_ := lt_blk Ha2.out
      go_wp2
      (try simp only [Exit.inBlock, Exit.then])
      refine bp_gen ?_
      intro v2 hv2
      have Xz : v2.heap[Bz]? = some (.cells #[.int .i64 i, .int .i64 s, .int .i64 h, .int .i64 v] 123 (0, 0)) := by
        rw [hv2]
        (repeat' (first | (with_reducible exact Hz2.out) | (with_reducible exact heap_alloc_new _ _) | (with_reducible exact blk_new (by first | (simp; done) | omega)) | (with_reducible refine blk_drew ?_) | (with_reducible apply put1_0) | (with_reducible apply put2_0) | (with_reducible apply put2_1) | (with_reducible apply put3_0) | (with_reducible apply put3_1) | (with_reducible apply put3_2) | (with_reducible apply put4_0) | (with_reducible apply put4_1) | (with_reducible apply put4_2) | (with_reducible apply put4_3) | (with_reducible apply put5_0) | (with_reducible apply put5_1) | (with_reducible apply put5_2) | (with_reducible apply put5_3) | (with_reducible apply put5_4) | (with_reducible apply put6_0) | (with_reducible apply put6_1) | (with_reducible apply put6_2) | (with_reducible apply put6_3) | (with_reducible apply put6_4) | (with_reducible apply put6_5) | (with_reducible refine blk_else (by omega) ?_) | (with_reducible refine blk_old ?_)))
      have XB : Below w.heap.size w v2 := by
        rw [hv2]
        (repeat' (first | (with_reducible exact HB2.out) | (with_reducible exact Below.refl _ _) | (with_reducible refine below_drewN _ ?_) | (with_reducible refine Below.drew ?_) | (with_reducible refine Below.setCell ?_ (by first | (simp; done) | omega) _) | (with_reducible refine Below.alloc ?_ (by have := HB2.out.size; simp; omega) _)))
      clear z0_ z1_ z2_ z3_ zf0_ zf1_ zf2_ zf3_ zn_ zm_ zl_ a0_ a1_ a2_ a3_ af0_ af1_ af2_ af3_ an_ am_ al_
      clear hv2 Hz2 Ha2 HB2
      obtain ⟨z0_, z1_, z2_, z3_, -⟩ := at4 Xz
      refine bodyPost_ret (v := .tuple #[.agg #[.int .i64 i, .int .i64 s, .int .i64 h, .int .i64 v], .bool false]) (by simp [results, Try.results64, go_sem, z0_, z1_, z2_, z3_]) rfl ⟨rfl, XB⟩
  · have k6 : cre i s h v = 6 := if_neg hok
    rw [k6] at CK
    rw [if_neg hok]
    simp only [cd_val]
    clear hok k6
    go_enter Try.func64, Try.ntmps64
    go_wp2_with fail
    refine cl_gen ?_
    intro v0 hv0
    have XB : Below w.heap.size w v0 := by
      rw [hv0]
      (repeat' (first | (with_reducible exact Below.refl _ _) | (with_reducible assumption) | (with_reducible refine below_drewN _ ?_) | (with_reducible refine Below.drew ?_) | (with_reducible refine Below.setCell ?_ (by simp) _) | (with_reducible refine Below.alloc ?_ (by simp; try omega) _)))
    have Xa : v0.heap[w.heap.size]? = some (.cells #[.int .i64 i, .int .i64 s, .int .i64 h, .int .i64 v] 123 (0, 0)) := by
      rw [hv0]
      (repeat' (first | (with_reducible exact heap_alloc_new _ _) | (with_reducible exact blk_new (by first | (simp; done) | omega)) | (with_reducible refine blk_drew ?_) | (with_reducible apply put1_0) | (with_reducible apply put2_0) | (with_reducible apply put2_1) | (with_reducible apply put3_0) | (with_reducible apply put3_1) | (with_reducible apply put3_2) | (with_reducible apply put4_0) | (with_reducible apply put4_1) | (with_reducible apply put4_2) | (with_reducible apply put4_3) | (with_reducible apply put5_0) | (with_reducible apply put5_1) | (with_reducible apply put5_2) | (with_reducible apply put5_3) | (with_reducible apply put5_4) | (with_reducible apply put6_0) | (with_reducible apply put6_1) | (with_reducible apply put6_2) | (with_reducible apply put6_3) | (with_reducible apply put6_4) | (with_reducible apply put6_5) | (with_reducible refine blk_else (by omega) ?_) | (with_reducible refine blk_old ?_)))
    have Xz : v0.heap[w.heap.size + 1]? = some (.cells #[.int .i64 0, .int .i64 0, .int .i64 0, .int .i64 0] 123 (0, 0)) := by
      rw [hv0]
      (repeat' (first | (with_reducible exact heap_alloc_new _ _) | (with_reducible exact blk_new (by first | (simp; done) | omega)) | (with_reducible refine blk_drew ?_) | (with_reducible apply put1_0) | (with_reducible apply put2_0) | (with_reducible apply put2_1) | (with_reducible apply put3_0) | (with_reducible apply put3_1) | (with_reducible apply put3_2) | (with_reducible apply put4_0) | (with_reducible apply put4_1) | (with_reducible apply put4_2) | (with_reducible apply put4_3) | (with_reducible apply put5_0) | (with_reducible apply put5_1) | (with_reducible apply put5_2) | (with_reducible apply put5_3) | (with_reducible apply put5_4) | (with_reducible apply put6_0) | (with_reducible apply put6_1) | (with_reducible apply put6_2) | (with_reducible apply put6_3) | (with_reducible apply put6_4) | (with_reducible apply put6_5) | (with_reducible refine blk_else (by omega) ?_) | (with_reducible refine blk_old ?_)))
    obtain ⟨Bz, hBz⟩ : ∃ x, x = w.heap.size + 1 := ⟨_, rfl⟩
    rw [← hBz] at Xz
    try rw [← hBz]
    have lez : w.heap.size ≤ Bz := by omega
    obtain ⟨Ba, hBa⟩ : ∃ x, x = w.heap.size := ⟨_, rfl⟩
    rw [← hBa] at Xa
    try rw [← hBa]
    have naz : ¬ Ba = Bz := by omega
    have nza : ¬ Bz = Ba := fun h => naz h.symm
    have lea : w.heap.size ≤ Ba := by omega
    clear hBa hBz
    clear hv0
    refine (CK.out _).mono ?_
    rintro e w1 ⟨rfl, bb⟩
    have Hz1 := Lib.hid (blk_call bb Xz)
    have Ha1 := Lib.hid (blk_call bb Xa)
    have HB1 := Lib.hid (bel_onto XB bb XB.size)
    clear Xz Xa XB bb
    obtain ⟨z0_, z1_, z2_, z3_, zf0_, zf1_, zf2_, zf3_⟩ := at4 Hz1.out
    have zn_ := ne_blk Hz1.out
    have zm_ := Ne.symm (a := Bz) zn_
    have zl_ := lt_blk Hz1.out
    obtain ⟨a0_, a1_, a2_, a3_, af0_, af1_, af2_, af3_⟩ := at4 Ha1.out
    have an_ := ne_blk Ha1.out
    have am_ := Ne.symm (a := Ba) an_
    have al_ := lt_blk Ha1.out
    go_wp2
    (try simp only [Exit.inBlock, Exit.then])
    refine bp_gen ?_
    intro v1 hv1
    have Xz : v1.heap[Bz]? = some (.cells #[.int .i64 0, .int .i64 0, .int .i64 0, .int .i64 0] 123 (0, 0)) := by
      rw [hv1]
      (repeat' (first | (with_reducible exact Hz1.out) | (with_reducible exact heap_alloc_new _ _) | (with_reducible exact blk_new (by first | (simp; done) | omega)) | (with_reducible refine blk_drew ?_) | (with_reducible apply put1_0) | (with_reducible apply put2_0) | (with_reducible apply put2_1) | (with_reducible apply put3_0) | (with_reducible apply put3_1) | (with_reducible apply put3_2) | (with_reducible apply put4_0) | (with_reducible apply put4_1) | (with_reducible apply put4_2) | (with_reducible apply put4_3) | (with_reducible apply put5_0) | (with_reducible apply put5_1) | (with_reducible apply put5_2) | (with_reducible apply put5_3) | (with_reducible apply put5_4) | (with_reducible apply put6_0) | (with_reducible apply put6_1) | (with_reducible apply put6_2) | (with_reducible apply put6_3) | (with_reducible apply put6_4) | (with_reducible apply put6_5) | (with_reducible refine blk_else (by omega) ?_) | (with_reducible refine blk_old ?_)))
    have XB : Below w.heap.size w v1 := by
      rw [hv1]
      (repeat' (first | (with_reducible exact HB1.out) | (with_reducible exact Below.refl _ _) | (with_reducible refine below_drewN _ ?_) | (with_reducible refine Below.drew ?_) | (with_reducible refine Below.setCell ?_ (by first | (simp; done) | omega) _) | (with_reducible refine Below.alloc ?_ (by have := HB1.out.size; simp; omega) _)))
    clear z0_ z1_ z2_ z3_ zf0_ zf1_ zf2_ zf3_ zn_ zm_ zl_ a0_ a1_ a2_ a3_ af0_ af1_ af2_ af3_ an_ am_ al_
    clear hv1 Hz1 Ha1 HB1
    obtain ⟨z0_, z1_, z2_, z3_, -⟩ := at4 Xz
    refine bodyPost_ret (v := .tuple #[.agg #[.int .i64 0, .int .i64 0, .int .i64 0, .int .i64 0], .bool false]) (by simp [results, Try.results64, go_sem, z0_, z1_, z2_, z3_]) rfl ⟨rfl, XB⟩
set_option maxRecDepth 100000 in
set_option maxHeartbeats 4000000 in
theorem cr_new (i s h : Int) (w : World) :
    Calls Try.prog 56 #[.int .i64 i, .int .i64 s, .int .i64 h] w fun e w' => e = .returned (.tuple #[if cre i s h 0 = 0 then .agg #[.int .i64 i, .int .i64 s, .int .i64 h, .int .i64 0] else .agg #[.int .i64 0, .int .i64 0, .int .i64 0, .int .i64 0], .int .i64 (cre i s h 0)]) ∧ Below w.heap.size w w' := by
  have CK := Lib.hid (fun W => cr_check i s h 0 W)
  generalize cre i s h 0 = k at *
  by_cases hk : k = 0
  · subst hk
    rw [if_pos rfl]
    go_enter Try.func56, Try.ntmps56
    go_wp2_with fail
    refine (CK.out _).mono ?_
    rintro e w2 ⟨rfl, rfl⟩
    go_wp2
    (try simp only [Exit.inBlock, Exit.then])
    refine bodyPost_ret (v := .tuple #[.agg #[.int .i64 i, .int .i64 s, .int .i64 h, .int .i64 0], .int .i64 0]) (by simp [results, Try.results56, go_sem]) rfl ⟨rfl, ?_⟩
    (repeat' (first | (with_reducible exact Below.refl _ _) | (with_reducible assumption) | (with_reducible refine below_drewN _ ?_) | (with_reducible refine Below.drew ?_) | (with_reducible refine Below.setCell ?_ (by simp) _) | (with_reducible refine Below.alloc ?_ (by simp; try omega) _)))
  · rw [if_neg hk]
    have g : (k != 0) = true := by simp [hk]
    clear hk
    go_enter Try.func56, Try.ntmps56
    go_wp2_with fail
    refine (CK.out _).mono ?_
    rintro e w2 ⟨rfl, rfl⟩
    go_wp2
    (try simp only [Exit.inBlock, Exit.then])
    refine bodyPost_ret (v := .tuple #[.agg #[.int .i64 0, .int .i64 0, .int .i64 0, .int .i64 0], .int .i64 k]) (by simp [results, Try.results56, go_sem]) rfl ⟨rfl, ?_⟩
    (repeat' (first | (with_reducible exact Below.refl _ _) | (with_reducible assumption) | (with_reducible refine below_drewN _ ?_) | (with_reducible refine Below.drew ?_) | (with_reducible refine Below.setCell ?_ (by simp) _) | (with_reducible refine Below.alloc ?_ (by simp; try omega) _)))
end Go.Proofs.Ytcieggckmpabnaa
