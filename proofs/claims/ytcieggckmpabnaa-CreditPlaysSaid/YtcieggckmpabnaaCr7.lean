/-
  What the document's answer of layer 23 makes of any class: packets, waits, ticks. No condition but that numbers are words.
-/
import Derived.Test.YtcieggckmpabnaaCr6
namespace Go.Proofs.Ytcieggckmpabnaa
set_option linter.unusedVariables false
set_option linter.unusedSimpArgs false
open Go.ChangeShapes Go.WideShapes Go.ChangeAt Go.RowKit
attribute [local go_sem] alloc_drewN setCell_drewN

set_option maxRecDepth 100000 in
set_option maxHeartbeats 4000000 in
theorem cr_rsent (c : CD) (n : Int) (n0 : 0 ≤ n) (n1 : n ≤ 18446744073709551615) (w : World) :
    Calls Try.prog 65 #[c.val, .int .u64 n] w fun e w' => e = .returned (.tuple #[(c.sent n).1.val, .bool (c.sent n).2]) ∧ Below w.heap.size w w' := by
  obtain ⟨i, s, h, v⟩ := c
  have MY := Lib.hid (fun W => cr_rmay i s h v W)
  unfold CD.sent
  by_cases hok : CD.ok ⟨i, s, h, v⟩
  · rw [decide_eq_true hok] at MY
    rw [if_pos hok]
    obtain ⟨⟨i0, i1⟩, ⟨s0, s1⟩, ⟨h0, h1⟩, v0, v1⟩ := id hok
    dsimp only at i0 i1 s0 s1 h0 h1 v0 v1 ⊢
    by_cases hv : 0 ≤ v
    · have gv : decide (v < 0) = false := decide_eq_false (by omega)
      by_cases hn : n ≤ 65535
      · rw [if_pos ⟨hv, hn⟩]
        have gn : decide (65535 < n) = false := decide_eq_false (by omega)
        have q0 : 0 ≤ s * n := Int.mul_nonneg (by omega) n0
        have q1 : s * n ≤ 1048576 * 65535 := Int.mul_le_mul s1 hn n0 (by omega)
        have w1_ : IntKind.i64.wrap n = n := by rw [IntKind.wrap_i64]; omega
        have w2_ : IntKind.i64.wrap (s * n) = s * n := by rw [IntKind.wrap_i64]; omega
        have w3_ : IntKind.i64.wrap (v - s * n) = v - s * n := by rw [IntKind.wrap_i64]; omega
        obtain ⟨Q, hQ⟩ : ∃ Q, Q = s * n := ⟨_, rfl⟩
        dsimp only
        rw [← hQ] at q0 q1 w2_ w3_ ⊢
        have hQ' := hQ.symm
        simp only [cd_val]
        clear hok hQ
        go_enter Try.func65, Try.ntmps65
        go_wp2_with fail
        refine cl_gen ?_
        intro v0 hv0
        have XB : Below w.heap.size w v0 := by
          rw [hv0]
          (repeat' (first | (with_reducible exact Below.refl _ _) | (with_reducible assumption) | (with_reducible refine below_drewN _ ?_) | (with_reducible refine Below.drew ?_) | (with_reducible refine Below.setCell ?_ (by simp) _) | (with_reducible refine Below.alloc ?_ (by simp; try omega) _)))
        have Xa : v0.heap[w.heap.size]? = some (.cells #[.int .i64 i, .int .i64 s, .int .i64 h, .int .i64 v] 121 (0, 0)) := by
          rw [hv0]
          (repeat' (first | (with_reducible exact heap_alloc_new _ _) | (with_reducible exact blk_new (by first | (simp; done) | omega)) | (with_reducible refine blk_drew ?_) | (with_reducible apply put4_0) | (with_reducible apply put4_1) | (with_reducible apply put4_2) | (with_reducible apply put4_3) | (with_reducible refine blk_else (by omega) ?_) | (with_reducible refine blk_old ?_)))
        have Xz : v0.heap[w.heap.size + 1]? = some (.cells #[.int .i64 0, .int .i64 0, .int .i64 0, .int .i64 0] 121 (0, 0)) := by
          rw [hv0]
          (repeat' (first | (with_reducible exact heap_alloc_new _ _) | (with_reducible exact blk_new (by first | (simp; done) | omega)) | (with_reducible refine blk_drew ?_) | (with_reducible apply put4_0) | (with_reducible apply put4_1) | (with_reducible apply put4_2) | (with_reducible apply put4_3) | (with_reducible refine blk_else (by omega) ?_) | (with_reducible refine blk_old ?_)))
        obtain ⟨Bz, hBz⟩ : ∃ x, x = w.heap.size + 1 := ⟨_, rfl⟩
        rw [← hBz] at Xz
        try rw [← hBz]
        have lez : w.heap.size ≤ Bz := by omega
        obtain ⟨Ba, hBa⟩ : ∃ x, x = w.heap.size := ⟨_, rfl⟩
        rw [← hBa] at Xa
        try rw [← hBa]
        have naz : ¬ Ba = Bz := by omega
        have nza : ¬ Bz = Ba := fun h => naz h.symm
        have lea : w.heap.size ≤ Ba := by omega
        clear hBa hBz
        clear hv0
        refine (MY.out _).mono ?_
        rintro e w1 ⟨rfl, bb⟩
        have Hz1 := Lib.hid (blk_call bb Xz)
        have Ha1 := Lib.hid (blk_call bb Xa)
        have HB1 := Lib.hid (bel_onto XB bb XB.size)
        clear Xz Xa XB bb
        obtain ⟨z0_, z1_, z2_, z3_, zf0_, zf1_, zf2_, zf3_⟩ := at4 Hz1.out
        have zn_ := ne_blk Hz1.out
        have zm_ := Ne.symm (a := Bz) zn_
        have zl_ := lt_blk Hz1.out
        obtain ⟨a0_, a1_, a2_, a3_, af0_, af1_, af2_, af3_⟩ := at4 Ha1.out
        have an_ := ne_blk Ha1.out
        have am_ := Ne.symm (a := Ba) an_
        have al_ := lt_blk Ha1.out
        go_wp2
        (try simp only [Exit.inBlock, Exit.then])
        refine bp_gen ?_
        intro v1 hv1
        have Xz : v1.heap[Bz]? = some (.cells #[.int .i64 i, .int .i64 s, .int .i64 h, .int .i64 (v - Q)] 121 (0, 0)) := by
          rw [hv1]
          (repeat' (first | (with_reducible exact Hz1.out) | (with_reducible exact heap_alloc_new _ _) | (with_reducible exact blk_new (by first | (simp; done) | omega)) | (with_reducible refine blk_drew ?_) | (with_reducible apply put4_0) | (with_reducible apply put4_1) | (with_reducible apply put4_2) | (with_reducible apply put4_3) | (with_reducible refine blk_else (by omega) ?_) | (with_reducible refine blk_old ?_)))
        have XB : Below w.heap.size w v1 := by
          rw [hv1]
          (repeat' (first | (with_reducible exact HB1.out) | (with_reducible exact Below.refl _ _) | (with_reducible refine below_drewN _ ?_) | (with_reducible refine Below.drew ?_) | (with_reducible refine Below.setCell ?_ (by first | (simp; done) | omega) _) | (with_reducible refine Below.alloc ?_ (by have := HB1.out.size; simp; omega) _)))
        clear z0_ z1_ z2_ z3_ zf0_ zf1_ zf2_ zf3_ zn_ zm_ zl_ a0_ a1_ a2_ a3_ af0_ af1_ af2_ af3_ an_ am_ al_
        clear hv1 Hz1 Ha1 HB1
        obtain ⟨z0_, z1_, z2_, z3_, -⟩ := at4 Xz
        refine bodyPost_ret (v := .tuple #[.agg #[.int .i64 i, .int .i64 s, .int .i64 h, .int .i64 (v - Q)], .bool true]) (by simp [results, Try.results65, go_sem, z0_, z1_, z2_, z3_]) rfl ⟨rfl, XB⟩
      · rw [if_neg (fun x => hn x.2)]
        have gn : decide (65535 < n) = true := decide_eq_true (by omega)
        simp only [cd_val]
        clear hok hn
        go_enter Try.func65, Try.ntmps65
        go_wp2_with fail
        refine cl_gen ?_
        intro v0 hv0
        have XB : Below w.heap.size w v0 := by
          rw [hv0]
          (repeat' (first | (with_reducible exact Below.refl _ _) | (with_reducible assumption) | (with_reducible refine below_drewN _ ?_) | (with_reducible refine Below.drew ?_) | (with_reducible refine Below.setCell ?_ (by simp) _) | (with_reducible refine Below.alloc ?_ (by simp; try omega) _)))
        have Xa : v0.heap[w.heap.size]? = some (.cells #[.int .i64 i, .int .i64 s, .int .i64 h, .int .i64 v] 121 (0, 0)) := by
          rw [hv0]
          (repeat' (first | (with_reducible exact heap_alloc_new _ _) | (with_reducible exact blk_new (by first | (simp; done) | omega)) | (with_reducible refine blk_drew ?_) | (with_reducible apply put4_0) | (with_reducible apply put4_1) | (with_reducible apply put4_2) | (with_reducible apply put4_3) | (with_reducible refine blk_else (by omega) ?_) | (with_reducible refine blk_old ?_)))
        have Xz : v0.heap[w.heap.size + 1]? = some (.cells #[.int .i64 0, .int .i64 0, .int .i64 0, .int .i64 0] 121 (0, 0)) := by
          rw [hv0]
          (repeat' (first | (with_reducible exact heap_alloc_new _ _) | (with_reducible exact blk_new (by first | (simp; done) | omega)) | (with_reducible refine blk_drew ?_) | (with_reducible apply put4_0) | (with_reducible apply put4_1) | (with_reducible apply put4_2) | (with_reducible apply put4_3) | (with_reducible refine blk_else (by omega) ?_) | (with_reducible refine blk_old ?_)))
        obtain ⟨Bz, hBz⟩ : ∃ x, x = w.heap.size + 1 := ⟨_, rfl⟩
        rw [← hBz] at Xz
        try rw [← hBz]
        have lez : w.heap.size ≤ Bz := by omega
        obtain ⟨Ba, hBa⟩ : ∃ x, x = w.heap.size := ⟨_, rfl⟩
        rw [← hBa] at Xa
        try rw [← hBa]
        have naz : ¬ Ba = Bz := by omega
        have nza : ¬ Bz = Ba := fun h => naz h.symm
        have lea : w.heap.size ≤ Ba := by omega
        clear hBa hBz
        clear hv0
        refine (MY.out _).mono ?_
        rintro e w1 ⟨rfl, bb⟩
        have Hz1 := Lib.hid (blk_call bb Xz)
        have Ha1 := Lib.hid (blk_call bb Xa)
        have HB1 := Lib.hid (bel_onto XB bb XB.size)
        clear Xz Xa XB bb
        obtain ⟨z0_, z1_, z2_, z3_, zf0_, zf1_, zf2_, zf3_⟩ := at4 Hz1.out
        have zn_ := ne_blk Hz1.out
        have zm_ := Ne.symm (a := Bz) zn_
        have zl_ := lt_blk Hz1.out
        obtain ⟨a0_, a1_, a2_, a3_, af0_, af1_, af2_, af3_⟩ := at4 Ha1.out
        have an_ := ne_blk Ha1.out
        have am_ := Ne.symm (a := Ba) an_
        have al_ := lt_blk Ha1.out
        go_wp2
        (try simp only [Exit.inBlock, Exit.then])
        refine bp_gen ?_
        intro v1 hv1
        have Xz : v1.heap[Bz]? = some (.cells #[.int .i64 i, .int .i64 s, .int .i64 h, .int .i64 v] 121 (0, 0)) := by
          rw [hv1]
          (repeat' (first | (with_reducible exact Hz1.out) | (with_reducible exact heap_alloc_new _ _) | (with_reducible exact blk_new (by first | (simp; done) | omega)) | (with_reducible refine blk_drew ?_) | (with_reducible apply put4_0) | (with_reducible apply put4_1) | (with_reducible apply put4_2) | (with_reducible apply put4_3) | (with_reducible refine blk_else (by omega) ?_) | (with_reducible refine blk_old ?_)))
        have XB : Below w.heap.size w v1 := by
          rw [hv1]
          (repeat' (first | (with_reducible exact HB1.out) | (with_reducible exact Below.refl _ _) | (with_reducible refine below_drewN _ ?_) | (with_reducible refine Below.drew ?_) | (with_reducible refine Below.setCell ?_ (by first | (simp; done) | omega) _) | (with_reducible refine Below.alloc ?_ (by have := HB1.out.size; simp; omega) _)))
        clear z0_ z1_ z2_ z3_ zf0_ zf1_ zf2_ zf3_ zn_ zm_ zl_ a0_ a1_ a2_ a3_ af0_ af1_ af2_ af3_ an_ am_ al_
        clear hv1 Hz1 Ha1 HB1
        obtain ⟨z0_, z1_, z2_, z3_, -⟩ := at4 Xz
        refine bodyPost_ret (v := .tuple #[.agg #[.int .i64 i, .int .i64 s, .int .i64 h, .int .i64 v], .bool false]) (by simp [results, Try.results65, go_sem, z0_, z1_, z2_, z3_]) rfl ⟨rfl, XB⟩
    · have gv : decide (v < 0) = true := decide_eq_true (by omega)
      rw [if_neg (fun x => hv x.1)]
      simp only [cd_val]
      clear hok hv
      go_enter Try.func65, Try.ntmps65
      go_wp2_with fail
      refine cl_gen ?_
      intro v0 hv0
      have XB : Below w.heap.size w v0 := by
        rw [hv0]
        (repeat' (first | (with_reducible exact Below.refl _ _) | (with_reducible assumption) | (with_reducible refine below_drewN _ ?_) | (with_reducible refine Below.drew ?_) | (with_reducible refine Below.setCell ?_ (by simp) _) | (with_reducible refine Below.alloc ?_ (by simp; try omega) _)))
      have Xa : v0.heap[w.heap.size]? = some (.cells #[.int .i64 i, .int .i64 s, .int .i64 h, .int .i64 v] 121 (0, 0)) := by
        rw [hv0]
        (repeat' (first | (with_reducible exact heap_alloc_new _ _) | (with_reducible exact blk_new (by first | (simp; done) | omega)) | (with_reducible refine blk_drew ?_) | (with_reducible apply put4_0) | (with_reducible apply put4_1) | (with_reducible apply put4_2) | (with_reducible apply put4_3) | (with_reducible refine blk_else (by omega) ?_) | (with_reducible refine blk_old ?_)))
      have Xz : v0.heap[w.heap.size + 1]? = some (.cells #[.int .i64 0, .int .i64 0, .int .i64 0, .int .i64 0] 121 (0, 0)) := by
        rw [hv0]
        (repeat' (first | (with_reducible exact heap_alloc_new _ _) | (with_reducible exact blk_new (by first | (simp; done) | omega)) | (with_reducible refine blk_drew ?_) | (with_reducible apply put4_0) | (with_reducible apply put4_1) | (with_reducible apply put4_2) | (with_reducible apply put4_3) | (with_reducible refine blk_else (by omega) ?_) | (with_reducible refine blk_old ?_)))
      obtain ⟨Bz, hBz⟩ : ∃ x, x = w.heap.size + 1 := ⟨_, rfl⟩
      rw [← hBz] at Xz
      try rw [← hBz]
      have lez : w.heap.size ≤ Bz := by omega
      obtain ⟨Ba, hBa⟩ : ∃ x, x = w.heap.size := ⟨_, rfl⟩
      rw [← hBa] at Xa
      try rw [← hBa]
      have naz : ¬ Ba = Bz := by omega
      have nza : ¬ Bz = Ba := fun h => naz h.symm
      have lea : w.heap.size ≤ Ba := by omega
      clear hBa hBz
      clear hv0
      refine (MY.out _).mono ?_
      rintro e w1 ⟨rfl, bb⟩
      have Hz1 := Lib.hid (blk_call bb Xz)
      have Ha1 := Lib.hid (blk_call bb Xa)
      have HB1 := Lib.hid (bel_onto XB bb XB.size)
      clear Xz Xa XB bb
      obtain ⟨z0_, z1_, z2_, z3_, zf0_, zf1_, zf2_, zf3_⟩ := at4 Hz1.out
      have zn_ := ne_blk Hz1.out
      have zm_ := Ne.symm (a := Bz) zn_
      have zl_ := lt_blk Hz1.out
      obtain ⟨a0_, a1_, a2_, a3_, af0_, af1_, af2_, af3_⟩ := at4 Ha1.out
      have an_ := ne_blk Ha1.out
      have am_ := Ne.symm (a := Ba) an_
      have al_ := lt_blk Ha1.out
      go_wp2
      (try simp only [Exit.inBlock, Exit.then])
      refine bp_gen ?_
      intro v1 hv1
      have Xz : v1.heap[Bz]? = some (.cells #[.int .i64 i, .int .i64 s, .int .i64 h, .int .i64 v] 121 (0, 0)) := by
        rw [hv1]
        (repeat' (first | (with_reducible exact Hz1.out) | (with_reducible exact heap_alloc_new _ _) | (with_reducible exact blk_new (by first | (simp; done) | omega)) | (with_reducible refine blk_drew ?_) | (with_reducible apply put4_0) | (with_reducible apply put4_1) | (with_reducible apply put4_2) | (with_reducible apply put4_3) | (with_reducible refine blk_else (by omega) ?_) | (with_reducible refine blk_old ?_)))
      have XB : Below w.heap.size w v1 := by
        rw [hv1]
        (repeat' (first | (with_reducible exact HB1.out) | (with_reducible exact Below.refl _ _) | (with_reducible refine below_drewN _ ?_) | (with_reducible refine Below.drew ?_) | (with_reducible refine Below.setCell ?_ (by first | (simp; done) | omega) _) | (with_reducible refine Below.alloc ?_ (by have := HB1.out.size; simp; omega) _)))
      clear z0_ z1_ z2_ z3_ zf0_ zf1_ zf2_ zf3_ zn_ zm_ zl_ a0_ a1_ a2_ a3_ af0_ af1_ af2_ af3_ an_ am_ al_
      clear hv1 Hz1 Ha1 HB1
      obtain ⟨z0_, z1_, z2_, z3_, -⟩ := at4 Xz
      refine bodyPost_ret (v := .tuple #[.agg #[.int .i64 i, .int .i64 s, .int .i64 h, .int .i64 v], .bool false]) (by simp [results, Try.results65, go_sem, z0_, z1_, z2_, z3_]) rfl ⟨rfl, XB⟩
  · rw [decide_eq_false hok] at MY
    rw [if_neg hok]
    simp only [cd_val]
    clear hok
    go_enter Try.func65, Try.ntmps65
    go_wp2_with fail
    refine cl_gen ?_
    intro v0 hv0
    have XB : Below w.heap.size w v0 := by
      rw [hv0]
      (repeat' (first | (with_reducible exact Below.refl _ _) | (with_reducible assumption) | (with_reducible refine below_drewN _ ?_) | (with_reducible refine Below.drew ?_) | (with_reducible refine Below.setCell ?_ (by simp) _) | (with_reducible refine Below.alloc ?_ (by simp; try omega) _)))
    have Xa : v0.heap[w.heap.size]? = some (.cells #[.int .i64 i, .int .i64 s, .int .i64 h, .int .i64 v] 121 (0, 0)) := by
      rw [hv0]
      (repeat' (first | (with_reducible exact heap_alloc_new _ _) | (with_reducible exact blk_new (by first | (simp; done) | omega)) | (with_reducible refine blk_drew ?_) | (with_reducible apply put4_0) | (with_reducible apply put4_1) | (with_reducible apply put4_2) | (with_reducible apply put4_3) | (with_reducible refine blk_else (by omega) ?_) | (with_reducible refine blk_old ?_)))
    have Xz : v0.heap[w.heap.size + 1]? = some (.cells #[.int .i64 0, .int .i64 0, .int .i64 0, .int .i64 0] 121 (0, 0)) := by
      rw [hv0]
      (repeat' (first | (with_reducible exact heap_alloc_new _ _) | (with_reducible exact blk_new (by first | (simp; done) | omega)) | (with_reducible refine blk_drew ?_) | (with_reducible apply put4_0) | (with_reducible apply put4_1) | (with_reducible apply put4_2) | (with_reducible apply put4_3) | (with_reducible refine blk_else (by omega) ?_) | (with_reducible refine blk_old ?_)))
    obtain ⟨Bz, hBz⟩ : ∃ x, x = w.heap.size + 1 := ⟨_, rfl⟩
    rw [← hBz] at Xz
    try rw [← hBz]
    have lez : w.heap.size ≤ Bz := by omega
    obtain ⟨Ba, hBa⟩ : ∃ x, x = w.heap.size := ⟨_, rfl⟩
    rw [← hBa] at Xa
    try rw [← hBa]
    have naz : ¬ Ba = Bz := by omega
    have nza : ¬ Bz = Ba := fun h => naz h.symm
    have lea : w.heap.size ≤ Ba := by omega
    clear hBa hBz
    clear hv0
    refine (MY.out _).mono ?_
    rintro e w1 ⟨rfl, bb⟩
    have Hz1 := Lib.hid (blk_call bb Xz)
    have Ha1 := Lib.hid (blk_call bb Xa)
    have HB1 := Lib.hid (bel_onto XB bb XB.size)
    clear Xz Xa XB bb
    obtain ⟨z0_, z1_, z2_, z3_, zf0_, zf1_, zf2_, zf3_⟩ := at4 Hz1.out
    have zn_ := ne_blk Hz1.out
    have zm_ := Ne.symm (a := Bz) zn_
    have zl_ := lt_blk Hz1.out
    obtain ⟨a0_, a1_, a2_, a3_, af0_, af1_, af2_, af3_⟩ := at4 Ha1.out
    have an_ := ne_blk Ha1.out
    have am_ := Ne.symm (a := Ba) an_
    have al_ := lt_blk Ha1.out
    go_wp2
    (try simp only [Exit.inBlock, Exit.then])
    refine bp_gen ?_
    intro v1 hv1
    have Xz : v1.heap[Bz]? = some (.cells #[.int .i64 0, .int .i64 0, .int .i64 0, .int .i64 0] 121 (0, 0)) := by
      rw [hv1]
      (repeat' (first | (with_reducible exact Hz1.out) | (with_reducible exact heap_alloc_new _ _) | (with_reducible exact blk_new (by first | (simp; done) | omega)) | (with_reducible refine blk_drew ?_) | (with_reducible apply put4_0) | (with_reducible apply put4_1) | (with_reducible apply put4_2) | (with_reducible apply put4_3) | (with_reducible refine blk_else (by omega) ?_) | (with_reducible refine blk_old ?_)))
    have XB : Below w.heap.size w v1 := by
      rw [hv1]
      (repeat' (first | (with_reducible exact HB1.out) | (with_reducible exact Below.refl _ _) | (with_reducible refine below_drewN _ ?_) | (with_reducible refine Below.drew ?_) | (with_reducible refine Below.setCell ?_ (by first | (simp; done) | omega) _) | (with_reducible refine Below.alloc ?_ (by have := HB1.out.size; simp; omega) _)))
    clear z0_ z1_ z2_ z3_ zf0_ zf1_ zf2_ zf3_ zn_ zm_ zl_ a0_ a1_ a2_ a3_ af0_ af1_ af2_ af3_ an_ am_ al_
    clear hv1 Hz1 Ha1 HB1
    obtain ⟨z0_, z1_, z2_, z3_, -⟩ := at4 Xz
    refine bodyPost_ret (v := .tuple #[.agg #[.int .i64 0, .int .i64 0, .int .i64 0, .int .i64 0], .bool false]) (by simp [results, Try.results65, go_sem, z0_, z1_, z2_, z3_]) rfl ⟨rfl, XB⟩
theorem need_nat {i v : Int} (i0 : 1 ≤ i) (hv : v < 0) : need i v 0 = if (-v) / i * i < -v then (-v) / i + 1 else (-v) / i := by
  obtain ⟨n0, n1, n2, n3⟩ := need_is (v := v) (m := 0) i0
  have h1 := Int.mul_ediv_add_emod (-v) i
  have h2 := Int.emod_lt_of_pos (-v) (show 0 < i by omega)
  have h3 := Int.emod_nonneg (-v) (b := i) (by omega)
  have hp : 0 < need i v 0 := by
    by_cases h : need i v 0 = 0
    · have := n3.1 h; omega
    · omega
  have n2' := n2 hp
  rw [Int.mul_sub] at n2'
  rw [Int.mul_comm ((-v) / i) i]
  generalize need i v 0 = N at *
  generalize (-v) / i = q at *
  generalize (-v) % i = e at *
  have lo : i * N ≤ i * q + e + i - 1 := by omega
  have hi : i * q + e ≤ i * N := by omega
  split
  · have a1 : N < q + 2 := by
      by_cases h : q + 2 ≤ N
      · have := Int.mul_le_mul_of_nonneg_left h (show 0 ≤ i by omega); rw [Int.mul_add] at this; omega
      · omega
    have a2 : q < N := by
      by_cases h : N ≤ q
      · have := Int.mul_le_mul_of_nonneg_left h (show 0 ≤ i by omega); omega
      · omega
    omega
  · have a1 : N < q + 1 := by
      by_cases h : q + 1 ≤ N
      · have := Int.mul_le_mul_of_nonneg_left h (show 0 ≤ i by omega); rw [Int.mul_add] at this; omega
      · omega
    have a2 : q ≤ N := by
      by_cases h : N + 1 ≤ q
      · have := Int.mul_le_mul_of_nonneg_left h (show 0 ≤ i by omega); rw [Int.mul_add] at this; omega
      · omega
    omega
set_option maxRecDepth 100000 in
set_option maxHeartbeats 4000000 in
theorem cr_rwait (c : CD) (w : World) : Calls Try.prog 62 #[c.val] w fun e w' => e = .returned (.int .u64 c.wait) ∧ Below w.heap.size w w' := by
  obtain ⟨i, s, h, v⟩ := c
  have MY := Lib.hid (fun W => cr_rmay i s h v W)
  unfold CD.wait
  by_cases hok : CD.ok ⟨i, s, h, v⟩
  · rw [decide_eq_true hok] at MY
    rw [if_pos hok]
    obtain ⟨⟨i0, i1⟩, ⟨s0, s1⟩, ⟨h0, h1⟩, v0, v1⟩ := id hok
    dsimp only at i0 i1 s0 s1 h0 h1 v0 v1 ⊢
    by_cases hv : 0 ≤ v
    · have gv : decide (0 ≤ v) = true := decide_eq_true hv
      rw [show need i v 0 = 0 from (need_is i0).2.2.2.2 hv]
      simp only [cd_val]
      clear hok hv
      go_enter Try.func62, Try.ntmps62
      go_wp2_with fail
      refine cl_gen ?_
      intro v0 hv0
      have XB : Below w.heap.size w v0 := by
        rw [hv0]
        (repeat' (first | (with_reducible exact Below.refl _ _) | (with_reducible assumption) | (with_reducible refine below_drewN _ ?_) | (with_reducible refine Below.drew ?_) | (with_reducible refine Below.setCell ?_ (by simp) _) | (with_reducible refine Below.alloc ?_ (by simp; try omega) _)))
      have Xa : v0.heap[w.heap.size]? = some (.cells #[.int .i64 i, .int .i64 s, .int .i64 h, .int .i64 v] 121 (0, 0)) := by
        rw [hv0]
        (repeat' (first | (with_reducible exact heap_alloc_new _ _) | (with_reducible exact blk_new (by first | (simp; done) | omega)) | (with_reducible refine blk_drew ?_) | (with_reducible apply put4_0) | (with_reducible apply put4_1) | (with_reducible apply put4_2) | (with_reducible apply put4_3) | (with_reducible refine blk_else (by omega) ?_) | (with_reducible refine blk_old ?_)))
      obtain ⟨Ba, hBa⟩ : ∃ x, x = w.heap.size := ⟨_, rfl⟩
      rw [← hBa] at Xa
      try rw [← hBa]
      have lea : w.heap.size ≤ Ba := by omega
      clear hBa
      clear hv0
      refine (MY.out _).mono ?_
      rintro e w1 ⟨rfl, bb⟩
      have Ha1 := Lib.hid (blk_call bb Xa)
      have HB1 := Lib.hid (bel_onto XB bb XB.size)
      clear Xa XB bb
      obtain ⟨a0_, a1_, a2_, a3_, af0_, af1_, af2_, af3_⟩ := at4 Ha1.out
      have an_ := ne_blk Ha1.out
      have am_ := Ne.symm (a := Ba) an_
      have al_ := lt_blk Ha1.out
      go_wp2
      go_ret
      exact ⟨by first | rfl | (rw [← hq]; rfl), HB1.out⟩
    · have gv : decide (0 ≤ v) = false := decide_eq_false hv
      have hv' : v < 0 := by omega
      rw [need_nat i0 hv']
      have h1_ := Int.mul_ediv_add_emod (-v) i
      have h2_ := Int.emod_lt_of_pos (-v) (show 0 < i by omega)
      have h3_ := Int.emod_nonneg (-v) (b := i) (by omega)
      have q0 : 0 ≤ (-v) / i := Int.ediv_nonneg (by omega) (by omega)
      have q1 : (-v) / i ≤ -v := Int.ediv_le_self i (by omega)
      rw [Int.mul_comm] at h1_
      obtain ⟨q, hq⟩ : ∃ q, (-v) / i = q := ⟨_, rfl⟩
      obtain ⟨e_, he⟩ : ∃ e, (-v) % i = e := ⟨_, rfl⟩
      rw [hq] at h1_ q0 q1 ⊢
      rw [he] at h1_ h2_ h3_
      obtain ⟨P, hP⟩ : ∃ P, q * i = P := ⟨_, rfl⟩
      rw [hP] at h1_ ⊢
      obtain ⟨V, hV⟩ : ∃ V, -v = V := ⟨_, rfl⟩
      rw [hV] at h1_ q1 hq ⊢
      have P0 : 0 ≤ P := by rw [← hP]; exact Int.mul_nonneg q0 (by omega)
      have w1_ : IntKind.i64.wrap V = V := by rw [IntKind.wrap_i64]; omega
      have w2_ : IntKind.u64.wrap V = V := by rw [IntKind.wrap_u64]; omega
      have w3_ : IntKind.u64.wrap i = i := by rw [IntKind.wrap_u64]; omega
      have w4_ : IntKind.u64.wrap P = P := by rw [IntKind.wrap_u64]; omega
      have w5_ : IntKind.u64.wrap q = q := by rw [IntKind.wrap_u64]; omega
      have w6_ : IntKind.u64.wrap (q + 1) = q + 1 := by rw [IntKind.wrap_u64]; omega
      have gi : (i == 0) = false := by simp; omega
      have V0 : 0 ≤ V := by omega
      simp only [cd_val]
      clear hok hv he h1_ h2_ h3_
      by_cases hlt : P < V
      · have gl : decide (P < V) = true := decide_eq_true hlt
        rw [if_pos hlt]
        go_enter Try.func62, Try.ntmps62
        go_wp2_with fail
        refine cl_gen ?_
        intro v0 hv0
        have XB : Below w.heap.size w v0 := by
          rw [hv0]
          (repeat' (first | (with_reducible exact Below.refl _ _) | (with_reducible assumption) | (with_reducible refine below_drewN _ ?_) | (with_reducible refine Below.drew ?_) | (with_reducible refine Below.setCell ?_ (by simp) _) | (with_reducible refine Below.alloc ?_ (by simp; try omega) _)))
        have Xa : v0.heap[w.heap.size]? = some (.cells #[.int .i64 i, .int .i64 s, .int .i64 h, .int .i64 v] 121 (0, 0)) := by
          rw [hv0]
          (repeat' (first | (with_reducible exact heap_alloc_new _ _) | (with_reducible exact blk_new (by first | (simp; done) | omega)) | (with_reducible refine blk_drew ?_) | (with_reducible apply put4_0) | (with_reducible apply put4_1) | (with_reducible apply put4_2) | (with_reducible apply put4_3) | (with_reducible refine blk_else (by omega) ?_) | (with_reducible refine blk_old ?_)))
        obtain ⟨Ba, hBa⟩ : ∃ x, x = w.heap.size := ⟨_, rfl⟩
        rw [← hBa] at Xa
        try rw [← hBa]
        have lea : w.heap.size ≤ Ba := by omega
        clear hBa
        clear hv0
        refine (MY.out _).mono ?_
        rintro e w1 ⟨rfl, bb⟩
        have Ha1 := Lib.hid (blk_call bb Xa)
        have HB1 := Lib.hid (bel_onto XB bb XB.size)
        clear Xa XB bb
        obtain ⟨a0_, a1_, a2_, a3_, af0_, af1_, af2_, af3_⟩ := at4 Ha1.out
        have an_ := ne_blk Ha1.out
        have am_ := Ne.symm (a := Ba) an_
        have al_ := lt_blk Ha1.out
        go_wp2
        go_ret
        exact ⟨by first | rfl | (rw [← hq]; rfl), HB1.out⟩
      · have gl : decide (P < V) = false := decide_eq_false hlt
        rw [if_neg hlt]
        go_enter Try.func62, Try.ntmps62
        go_wp2_with fail
        refine cl_gen ?_
        intro v0 hv0
        have XB : Below w.heap.size w v0 := by
          rw [hv0]
          (repeat' (first | (with_reducible exact Below.refl _ _) | (with_reducible assumption) | (with_reducible refine below_drewN _ ?_) | (with_reducible refine Below.drew ?_) | (with_reducible refine Below.setCell ?_ (by simp) _) | (with_reducible refine Below.alloc ?_ (by simp; try omega) _)))
        have Xa : v0.heap[w.heap.size]? = some (.cells #[.int .i64 i, .int .i64 s, .int .i64 h, .int .i64 v] 121 (0, 0)) := by
          rw [hv0]
          (repeat' (first | (with_reducible exact heap_alloc_new _ _) | (with_reducible exact blk_new (by first | (simp; done) | omega)) | (with_reducible refine blk_drew ?_) | (with_reducible apply put4_0) | (with_reducible apply put4_1) | (with_reducible apply put4_2) | (with_reducible apply put4_3) | (with_reducible refine blk_else (by omega) ?_) | (with_reducible refine blk_old ?_)))
        obtain ⟨Ba, hBa⟩ : ∃ x, x = w.heap.size := ⟨_, rfl⟩
        rw [← hBa] at Xa
        try rw [← hBa]
        have lea : w.heap.size ≤ Ba := by omega
        clear hBa
        clear hv0
        refine (MY.out _).mono ?_
        rintro e w1 ⟨rfl, bb⟩
        have Ha1 := Lib.hid (blk_call bb Xa)
        have HB1 := Lib.hid (bel_onto XB bb XB.size)
        clear Xa XB bb
        obtain ⟨a0_, a1_, a2_, a3_, af0_, af1_, af2_, af3_⟩ := at4 Ha1.out
        have an_ := ne_blk Ha1.out
        have am_ := Ne.symm (a := Ba) an_
        have al_ := lt_blk Ha1.out
        go_wp2
        go_ret
        exact ⟨by first | rfl | (rw [← hq]; rfl), HB1.out⟩
  · rw [decide_eq_false hok] at MY
    rw [if_neg hok]
    simp only [cd_val]
    clear hok
    go_enter Try.func62, Try.ntmps62
    go_wp2_with fail
    refine cl_gen ?_
    intro v0 hv0
    have XB : Below w.heap.size w v0 := by
      rw [hv0]
      (repeat' (first | (with_reducible exact Below.refl _ _) | (with_reducible assumption) | (with_reducible refine below_drewN _ ?_) | (with_reducible refine Below.drew ?_) | (with_reducible refine Below.setCell ?_ (by simp) _) | (with_reducible refine Below.alloc ?_ (by simp; try omega) _)))
    have Xa : v0.heap[w.heap.size]? = some (.cells #[.int .i64 i, .int .i64 s, .int .i64 h, .int .i64 v] 121 (0, 0)) := by
      rw [hv0]
      (repeat' (first | (with_reducible exact heap_alloc_new _ _) | (with_reducible exact blk_new (by first | (simp; done) | omega)) | (with_reducible refine blk_drew ?_) | (with_reducible apply put4_0) | (with_reducible apply put4_1) | (with_reducible apply put4_2) | (with_reducible apply put4_3) | (with_reducible refine blk_else (by omega) ?_) | (with_reducible refine blk_old ?_)))
    obtain ⟨Ba, hBa⟩ : ∃ x, x = w.heap.size := ⟨_, rfl⟩
    rw [← hBa] at Xa
    try rw [← hBa]
    have lea : w.heap.size ≤ Ba := by omega
    clear hBa
    clear hv0
    refine (MY.out _).mono ?_
    rintro e w1 ⟨rfl, bb⟩
    have Ha1 := Lib.hid (blk_call bb Xa)
    have HB1 := Lib.hid (bel_onto XB bb XB.size)
    clear Xa XB bb
    obtain ⟨a0_, a1_, a2_, a3_, af0_, af1_, af2_, af3_⟩ := at4 Ha1.out
    have an_ := ne_blk Ha1.out
    have am_ := Ne.symm (a := Ba) an_
    have al_ := lt_blk Ha1.out
    go_wp2
    go_ret
    exact ⟨by first | rfl | (rw [← hq]; rfl), HB1.out⟩
theorem tick_far {i v x M : Int} (i0 : 1 ≤ i) (v0 : -1099511627776 ≤ v) (hM : M ≤ 1048576) (hx : 4398046511104 < x) : min (v + i * x) M = min (v + i * 4398046511104) M := by
  have h1 : i * 4398046511104 ≤ i * x := Int.mul_le_mul_of_nonneg_left (by omega) (by omega)
  have h2 : 1 * 4398046511104 ≤ i * 4398046511104 := Int.mul_le_mul_of_nonneg_right i0 (by omega)
  omega
set_option maxRecDepth 100000 in
set_option maxHeartbeats 4000000 in
theorem cr_rtick (c : CD) (x : Int) (x0 : 0 ≤ x) (x1 : x ≤ 18446744073709551615) (b : Bool) (w : World) :
    Calls Try.prog 60 #[c.val, .int .u64 x, .bool b] w fun e w' => e = .returned (c.tick x b).val ∧ Below w.heap.size w w' := by
  obtain ⟨i, s, h, v⟩ := c
  have MY := Lib.hid (fun W => cr_rmay i s h v W)
  by_cases hok : CD.ok ⟨i, s, h, v⟩
  · rw [decide_eq_true hok] at MY
    obtain ⟨⟨i0, i1⟩, ⟨s0, s1⟩, ⟨h0, h1⟩, v0, v1⟩ := id hok
    dsimp only at i0 i1 s0 s1 h0 h1 v0 v1
    obtain ⟨M, hM⟩ : ∃ M, M = if b = true then h else 0 := ⟨_, rfl⟩
    have hMb : 0 ≤ M ∧ M ≤ 1048576 := by split at hM <;> omega
    by_cases hz : b = false ∧ 0 ≤ v
    · obtain ⟨rfl, hv⟩ := hz
      have gv : decide (0 ≤ v) = true := decide_eq_true hv
      have hR : CD.tick ⟨i, s, h, v⟩ x false = ⟨i, s, h, 0⟩ := by
        unfold CD.tick
        rw [if_pos hok]
        dsimp only
        rw [if_neg (by decide), if_pos hv]
      rw [hR]
      simp only [cd_val]
      clear hok hR hM hMb hv
      go_enter Try.func60, Try.ntmps60
      go_wp2_with fail
      refine cl_gen ?_
      intro v0 hv0
      have XB : Below w.heap.size w v0 := by
        rw [hv0]
        (repeat' (first | (with_reducible exact Below.refl _ _) | (with_reducible assumption) | (with_reducible refine below_drewN _ ?_) | (with_reducible refine Below.drew ?_) | (with_reducible refine Below.setCell ?_ (by simp) _) | (with_reducible refine Below.alloc ?_ (by simp; try omega) _)))
      have Xa : v0.heap[w.heap.size]? = some (.cells #[.int .i64 i, .int .i64 s, .int .i64 h, .int .i64 v] 121 (0, 0)) := by
        rw [hv0]
        (repeat' (first | (with_reducible exact heap_alloc_new _ _) | (with_reducible exact blk_new (by first | (simp; done) | omega)) | (with_reducible refine blk_drew ?_) | (with_reducible apply put4_0) | (with_reducible apply put4_1) | (with_reducible apply put4_2) | (with_reducible apply put4_3) | (with_reducible refine blk_else (by omega) ?_) | (with_reducible refine blk_old ?_)))
      have Xz : v0.heap[w.heap.size + 1]? = some (.cells #[.int .i64 0, .int .i64 0, .int .i64 0, .int .i64 0] 121 (0, 0)) := by
        rw [hv0]
        (repeat' (first | (with_reducible exact heap_alloc_new _ _) | (with_reducible exact blk_new (by first | (simp; done) | omega)) | (with_reducible refine blk_drew ?_) | (with_reducible apply put4_0) | (with_reducible apply put4_1) | (with_reducible apply put4_2) | (with_reducible apply put4_3) | (with_reducible refine blk_else (by omega) ?_) | (with_reducible refine blk_old ?_)))
      obtain ⟨Bz, hBz⟩ : ∃ x, x = w.heap.size + 1 := ⟨_, rfl⟩
      rw [← hBz] at Xz
      try rw [← hBz]
      have lez : w.heap.size ≤ Bz := by omega
      obtain ⟨Ba, hBa⟩ : ∃ x, x = w.heap.size := ⟨_, rfl⟩
      rw [← hBa] at Xa
      try rw [← hBa]
      have naz : ¬ Ba = Bz := by omega
      have nza : ¬ Bz = Ba := fun h => naz h.symm
      have lea : w.heap.size ≤ Ba := by omega
      clear hBa hBz
      clear hv0
      refine (MY.out _).mono ?_
      rintro e w1 ⟨rfl, bb⟩
      have Hz1 := Lib.hid (blk_call bb Xz)
      have Ha1 := Lib.hid (blk_call bb Xa)
      have HB1 := Lib.hid (bel_onto XB bb XB.size)
      clear Xz Xa XB bb
      obtain ⟨z0_, z1_, z2_, z3_, zf0_, zf1_, zf2_, zf3_⟩ := at4 Hz1.out
      have zn_ := ne_blk Hz1.out
      have zm_ := Ne.symm (a := Bz) zn_
      have zl_ := lt_blk Hz1.out
      obtain ⟨a0_, a1_, a2_, a3_, af0_, af1_, af2_, af3_⟩ := at4 Ha1.out
      have an_ := ne_blk Ha1.out
      have am_ := Ne.symm (a := Ba) an_
      have al_ := lt_blk Ha1.out
      go_wp2
      (try simp only [Exit.inBlock, Exit.then])
      refine bp_gen ?_
      intro v1 hv1
      have Xz : v1.heap[Bz]? = some (.cells #[.int .i64 i, .int .i64 s, .int .i64 h, .int .i64 0] 121 (0, 0)) := by
        rw [hv1]
        (repeat' (first | (with_reducible exact Hz1.out) | (with_reducible exact heap_alloc_new _ _) | (with_reducible exact blk_new (by first | (simp; done) | omega)) | (with_reducible refine blk_drew ?_) | (with_reducible apply put4_0) | (with_reducible apply put4_1) | (with_reducible apply put4_2) | (with_reducible apply put4_3) | (with_reducible refine blk_else (by omega) ?_) | (with_reducible refine blk_old ?_)))
      have XB : Below w.heap.size w v1 := by
        rw [hv1]
        (repeat' (first | (with_reducible exact HB1.out) | (with_reducible exact Below.refl _ _) | (with_reducible refine below_drewN _ ?_) | (with_reducible refine Below.drew ?_) | (with_reducible refine Below.setCell ?_ (by first | (simp; done) | omega) _) | (with_reducible refine Below.alloc ?_ (by have := HB1.out.size; simp; omega) _)))
      clear z0_ z1_ z2_ z3_ zf0_ zf1_ zf2_ zf3_ zn_ zm_ zl_ a0_ a1_ a2_ a3_ af0_ af1_ af2_ af3_ an_ am_ al_
      clear hv1 Hz1 Ha1 HB1
      obtain ⟨z0_, z1_, z2_, z3_, -⟩ := at4 Xz
      refine bodyPost_ret (v := .agg #[.int .i64 i, .int .i64 s, .int .i64 h, .int .i64 0]) (by simp [results, Try.results60, go_sem, z0_, z1_, z2_, z3_]) rfl ⟨rfl, XB⟩
    · have hR : CD.tick ⟨i, s, h, v⟩ x b = ⟨i, s, h, min (v + i * x) M⟩ := by
        unfold CD.tick
        rw [if_pos hok]
        dsimp only
        cases b with
        | true => rw [if_pos rfl] at hM ⊢; rw [hM]
        | false =>
          rw [if_neg (by decide)] at hM ⊢
          rw [if_neg (fun y => hz ⟨rfl, y⟩), hM]
      rw [hR]
      obtain ⟨y, hy, y0, y1, hc⟩ : ∃ y, min (v + i * x) M = min (v + i * y) M ∧ 0 ≤ y ∧ y ≤ 4398046511104 ∧ ((decide (4398046511104 < x) = true ∧ y = 4398046511104) ∨ (decide (4398046511104 < x) = false ∧ y = x)) := by
        by_cases hx : 4398046511104 < x
        · exact ⟨_, tick_far i0 v0 hMb.2 hx, by omega, Int.le_refl _, Or.inl ⟨decide_eq_true hx, rfl⟩⟩
        · exact ⟨x, rfl, x0, by omega, Or.inr ⟨decide_eq_false hx, rfl⟩⟩
      rw [hy]
      have p0 : 0 ≤ i * y := Int.mul_nonneg (by omega) y0
      have p1 : i * y ≤ 1048576 * 4398046511104 := Int.mul_le_mul i1 y1 y0 (by omega)
      obtain ⟨P, hP⟩ : ∃ P, i * y = P := ⟨_, rfl⟩
      rw [hP] at p0 p1 ⊢
      obtain ⟨R, hRR⟩ : ∃ R, v + P = R := ⟨_, rfl⟩
      rw [hRR]
      have w1_ : IntKind.i64.wrap y = y := by rw [IntKind.wrap_i64]; omega
      have w2_ : IntKind.i64.wrap P = P := by rw [IntKind.wrap_i64]; omega
      have w3_ : IntKind.i64.wrap R = R := by rw [IntKind.wrap_i64]; omega
      simp only [cd_val]
      have gz : b = true ∨ (b = false ∧ decide (0 ≤ v) = false) := by
        cases b with
        | true => exact Or.inl rfl
        | false => exact Or.inr ⟨rfl, decide_eq_false (fun y => hz ⟨rfl, y⟩)⟩
      clear hok hR hy hz
      rcases gz with rfl | ⟨rfl, gv⟩
      · obtain rfl : M = h := hM
        rcases hc with ⟨gx, rfl⟩ | ⟨gx, rfl⟩
        · by_cases hg : M < R
          · have gg : decide (M < R) = true := decide_eq_true hg
            rw [show min R M = M by omega]
            clear hg
            go_enter Try.func60, Try.ntmps60
            go_wp2_with fail
            refine cl_gen ?_
            intro v0 hv0
            have XB : Below w.heap.size w v0 := by
              rw [hv0]
              (repeat' (first | (with_reducible exact Below.refl _ _) | (with_reducible assumption) | (with_reducible refine below_drewN _ ?_) | (with_reducible refine Below.drew ?_) | (with_reducible refine Below.setCell ?_ (by simp) _) | (with_reducible refine Below.alloc ?_ (by simp; try omega) _)))
            have Xa : v0.heap[w.heap.size]? = some (.cells #[.int .i64 i, .int .i64 s, .int .i64 M, .int .i64 v] 121 (0, 0)) := by
              rw [hv0]
              (repeat' (first | (with_reducible exact heap_alloc_new _ _) | (with_reducible exact blk_new (by first | (simp; done) | omega)) | (with_reducible refine blk_drew ?_) | (with_reducible apply put4_0) | (with_reducible apply put4_1) | (with_reducible apply put4_2) | (with_reducible apply put4_3) | (with_reducible refine blk_else (by omega) ?_) | (with_reducible refine blk_old ?_)))
            have Xz : v0.heap[w.heap.size + 1]? = some (.cells #[.int .i64 0, .int .i64 0, .int .i64 0, .int .i64 0] 121 (0, 0)) := by
              rw [hv0]
              (repeat' (first | (with_reducible exact heap_alloc_new _ _) | (with_reducible exact blk_new (by first | (simp; done) | omega)) | (with_reducible refine blk_drew ?_) | (with_reducible apply put4_0) | (with_reducible apply put4_1) | (with_reducible apply put4_2) | (with_reducible apply put4_3) | (with_reducible refine blk_else (by omega) ?_) | (with_reducible refine blk_old ?_)))
            obtain ⟨Bz, hBz⟩ : ∃ x, x = w.heap.size + 1 := ⟨_, rfl⟩
            rw [← hBz] at Xz
            try rw [← hBz]
            have lez : w.heap.size ≤ Bz := by omega
            obtain ⟨Ba, hBa⟩ : ∃ x, x = w.heap.size := ⟨_, rfl⟩
            rw [← hBa] at Xa
            try rw [← hBa]
            have naz : ¬ Ba = Bz := by omega
            have nza : ¬ Bz = Ba := fun h => naz h.symm
            have lea : w.heap.size ≤ Ba := by omega
            clear hBa hBz
            clear hv0
            refine (MY.out _).mono ?_
            rintro e w1 ⟨rfl, bb⟩
            have Hz1 := Lib.hid (blk_call bb Xz)
            have Ha1 := Lib.hid (blk_call bb Xa)
            have HB1 := Lib.hid (bel_onto XB bb XB.size)
            clear Xz Xa XB bb
            obtain ⟨z0_, z1_, z2_, z3_, zf0_, zf1_, zf2_, zf3_⟩ := at4 Hz1.out
            have zn_ := ne_blk Hz1.out
            have zm_ := Ne.symm (a := Bz) zn_
            have zl_ := lt_blk Hz1.out
            obtain ⟨a0_, a1_, a2_, a3_, af0_, af1_, af2_, af3_⟩ := at4 Ha1.out
            have an_ := ne_blk Ha1.out
            have am_ := Ne.symm (a := Ba) an_
            have al_ := lt_blk Ha1.out
            go_wp2
            (try simp only [Exit.inBlock, Exit.then])
            refine bp_gen ?_
            intro v1 hv1
            have Xz : v1.heap[Bz]? = some (.cells #[.int .i64 i, .int .i64 s, .int .i64 M, .int .i64 M] 121 (0, 0)) := by
              rw [hv1]
              (repeat' (first | (with_reducible exact Hz1.out) | (with_reducible exact heap_alloc_new _ _) | (with_reducible exact blk_new (by first | (simp; done) | omega)) | (with_reducible refine blk_drew ?_) | (with_reducible apply put4_0) | (with_reducible apply put4_1) | (with_reducible apply put4_2) | (with_reducible apply put4_3) | (with_reducible refine blk_else (by omega) ?_) | (with_reducible refine blk_old ?_)))
            have XB : Below w.heap.size w v1 := by
              rw [hv1]
              (repeat' (first | (with_reducible exact HB1.out) | (with_reducible exact Below.refl _ _) | (with_reducible refine below_drewN _ ?_) | (with_reducible refine Below.drew ?_) | (with_reducible refine Below.setCell ?_ (by first | (simp; done) | omega) _) | (with_reducible refine Below.alloc ?_ (by have := HB1.out.size; simp; omega) _)))
            clear z0_ z1_ z2_ z3_ zf0_ zf1_ zf2_ zf3_ zn_ zm_ zl_ a0_ a1_ a2_ a3_ af0_ af1_ af2_ af3_ an_ am_ al_
            clear hv1 Hz1 Ha1 HB1
            obtain ⟨z0_, z1_, z2_, z3_, -⟩ := at4 Xz
            refine bodyPost_ret (v := .agg #[.int .i64 i, .int .i64 s, .int .i64 M, .int .i64 M]) (by simp [results, Try.results60, go_sem, z0_, z1_, z2_, z3_]) rfl ⟨rfl, XB⟩
          · have gg : decide (M < R) = false := decide_eq_false hg
            rw [show min R M = R by omega]
            clear hg
            go_enter Try.func60, Try.ntmps60
            go_wp2_with fail
            refine cl_gen ?_
            intro v0 hv0
            have XB : Below w.heap.size w v0 := by
              rw [hv0]
              (repeat' (first | (with_reducible exact Below.refl _ _) | (with_reducible assumption) | (with_reducible refine below_drewN _ ?_) | (with_reducible refine Below.drew ?_) | (with_reducible refine Below.setCell ?_ (by simp) _) | (with_reducible refine Below.alloc ?_ (by simp; try omega) _)))
            have Xa : v0.heap[w.heap.size]? = some (.cells #[.int .i64 i, .int .i64 s, .int .i64 M, .int .i64 v] 121 (0, 0)) := by
              rw [hv0]
              (repeat' (first | (with_reducible exact heap_alloc_new _ _) | (with_reducible exact blk_new (by first | (simp; done) | omega)) | (with_reducible refine blk_drew ?_) | (with_reducible apply put4_0) | (with_reducible apply put4_1) | (with_reducible apply put4_2) | (with_reducible apply put4_3) | (with_reducible refine blk_else (by omega) ?_) | (with_reducible refine blk_old ?_)))
            have Xz : v0.heap[w.heap.size + 1]? = some (.cells #[.int .i64 0, .int .i64 0, .int .i64 0, .int .i64 0] 121 (0, 0)) := by
              rw [hv0]
              (repeat' (first | (with_reducible exact heap_alloc_new _ _) | (with_reducible exact blk_new (by first | (simp; done) | omega)) | (with_reducible refine blk_drew ?_) | (with_reducible apply put4_0) | (with_reducible apply put4_1) | (with_reducible apply put4_2) | (with_reducible apply put4_3) | (with_reducible refine blk_else (by omega) ?_) | (with_reducible refine blk_old ?_)))
            obtain ⟨Bz, hBz⟩ : ∃ x, x = w.heap.size + 1 := ⟨_, rfl⟩
            rw [← hBz] at Xz
            try rw [← hBz]
            have lez : w.heap.size ≤ Bz := by omega
            obtain ⟨Ba, hBa⟩ : ∃ x, x = w.heap.size := ⟨_, rfl⟩
            rw [← hBa] at Xa
            try rw [← hBa]
            have naz : ¬ Ba = Bz := by omega
            have nza : ¬ Bz = Ba := fun h => naz h.symm
            have lea : w.heap.size ≤ Ba := by omega
            clear hBa hBz
            clear hv0
            refine (MY.out _).mono ?_
            rintro e w1 ⟨rfl, bb⟩
            have Hz1 := Lib.hid (blk_call bb Xz)
            have Ha1 := Lib.hid (blk_call bb Xa)
            have HB1 := Lib.hid (bel_onto XB bb XB.size)
            clear Xz Xa XB bb
            obtain ⟨z0_, z1_, z2_, z3_, zf0_, zf1_, zf2_, zf3_⟩ := at4 Hz1.out
            have zn_ := ne_blk Hz1.out
            have zm_ := Ne.symm (a := Bz) zn_
            have zl_ := lt_blk Hz1.out
            obtain ⟨a0_, a1_, a2_, a3_, af0_, af1_, af2_, af3_⟩ := at4 Ha1.out
            have an_ := ne_blk Ha1.out
            have am_ := Ne.symm (a := Ba) an_
            have al_ := lt_blk Ha1.out
            go_wp2
            (try simp only [Exit.inBlock, Exit.then])
            refine bp_gen ?_
            intro v1 hv1
            have Xz : v1.heap[Bz]? = some (.cells #[.int .i64 i, .int .i64 s, .int .i64 M, .int .i64 R] 121 (0, 0)) := by
              rw [hv1]
              (repeat' (first | (with_reducible exact Hz1.out) | (with_reducible exact heap_alloc_new _ _) | (with_reducible exact blk_new (by first | (simp; done) | omega)) | (with_reducible refine blk_drew ?_) | (with_reducible apply put4_0) | (with_reducible apply put4_1) | (with_reducible apply put4_2) | (with_reducible apply put4_3) | (with_reducible refine blk_else (by omega) ?_) | (with_reducible refine blk_old ?_)))
            have XB : Below w.heap.size w v1 := by
              rw [hv1]
              (repeat' (first | (with_reducible exact HB1.out) | (with_reducible exact Below.refl _ _) | (with_reducible refine below_drewN _ ?_) | (with_reducible refine Below.drew ?_) | (with_reducible refine Below.setCell ?_ (by first | (simp; done) | omega) _) | (with_reducible refine Below.alloc ?_ (by have := HB1.out.size; simp; omega) _)))
            clear z0_ z1_ z2_ z3_ zf0_ zf1_ zf2_ zf3_ zn_ zm_ zl_ a0_ a1_ a2_ a3_ af0_ af1_ af2_ af3_ an_ am_ al_
            clear hv1 Hz1 Ha1 HB1
            obtain ⟨z0_, z1_, z2_, z3_, -⟩ := at4 Xz
            refine bodyPost_ret (v := .agg #[.int .i64 i, .int .i64 s, .int .i64 M, .int .i64 R]) (by simp [results, Try.results60, go_sem, z0_, z1_, z2_, z3_]) rfl ⟨rfl, XB⟩
        · by_cases hg : M < R
          · have gg : decide (M < R) = true := decide_eq_true hg
            rw [show min R M = M by omega]
            clear hg
            go_enter Try.func60, Try.ntmps60
            go_wp2_with fail
            refine cl_gen ?_
            intro v0 hv0
            have XB : Below w.heap.size w v0 := by
              rw [hv0]
              (repeat' (first | (with_reducible exact Below.refl _ _) | (with_reducible assumption) | (with_reducible refine below_drewN _ ?_) | (with_reducible refine Below.drew ?_) | (with_reducible refine Below.setCell ?_ (by simp) _) | (with_reducible refine Below.alloc ?_ (by simp; try omega) _)))
            have Xa : v0.heap[w.heap.size]? = some (.cells #[.int .i64 i, .int .i64 s, .int .i64 M, .int .i64 v] 121 (0, 0)) := by
              rw [hv0]
              (repeat' (first | (with_reducible exact heap_alloc_new _ _) | (with_reducible exact blk_new (by first | (simp; done) | omega)) | (with_reducible refine blk_drew ?_) | (with_reducible apply put4_0) | (with_reducible apply put4_1) | (with_reducible apply put4_2) | (with_reducible apply put4_3) | (with_reducible refine blk_else (by omega) ?_) | (with_reducible refine blk_old ?_)))
            have Xz : v0.heap[w.heap.size + 1]? = some (.cells #[.int .i64 0, .int .i64 0, .int .i64 0, .int .i64 0] 121 (0, 0)) := by
              rw [hv0]
              (repeat' (first | (with_reducible exact heap_alloc_new _ _) | (with_reducible exact blk_new (by first | (simp; done) | omega)) | (with_reducible refine blk_drew ?_) | (with_reducible apply put4_0) | (with_reducible apply put4_1) | (with_reducible apply put4_2) | (with_reducible apply put4_3) | (with_reducible refine blk_else (by omega) ?_) | (with_reducible refine blk_old ?_)))
            obtain ⟨Bz, hBz⟩ : ∃ x, x = w.heap.size + 1 := ⟨_, rfl⟩
            rw [← hBz] at Xz
            try rw [← hBz]
            have lez : w.heap.size ≤ Bz := by omega
            obtain ⟨Ba, hBa⟩ : ∃ x, x = w.heap.size := ⟨_, rfl⟩
            rw [← hBa] at Xa
            try rw [← hBa]
            have naz : ¬ Ba = Bz := by omega
            have nza : ¬ Bz = Ba := fun h => naz h.symm
            have lea : w.heap.size ≤ Ba := by omega
            clear hBa hBz
            clear hv0
            refine (MY.out _).mono ?_
            rintro e w1 ⟨rfl, bb⟩
            have Hz1 := Lib.hid (blk_call bb Xz)
            have Ha1 := Lib.hid (blk_call bb Xa)
            have HB1 := Lib.hid (bel_onto XB bb XB.size)
            clear Xz Xa XB bb
            obtain ⟨z0_, z1_, z2_, z3_, zf0_, zf1_, zf2_, zf3_⟩ := at4 Hz1.out
            have zn_ := ne_blk Hz1.out
            have zm_ := Ne.symm (a := Bz) zn_
            have zl_ := lt_blk Hz1.out
            obtain ⟨a0_, a1_, a2_, a3_, af0_, af1_, af2_, af3_⟩ := at4 Ha1.out
            have an_ := ne_blk Ha1.out
            have am_ := Ne.symm (a := Ba) an_
            have al_ := lt_blk Ha1.out
            go_wp2
            (try simp only [Exit.inBlock, Exit.then])
            refine bp_gen ?_
            intro v1 hv1
            have Xz : v1.heap[Bz]? = some (.cells #[.int .i64 i, .int .i64 s, .int .i64 M, .int .i64 M] 121 (0, 0)) := by
              rw [hv1]
              (repeat' (first | (with_reducible exact Hz1.out) | (with_reducible exact heap_alloc_new _ _) | (with_reducible exact blk_new (by first | (simp; done) | omega)) | (with_reducible refine blk_drew ?_) | (with_reducible apply put4_0) | (with_reducible apply put4_1) | (with_reducible apply put4_2) | (with_reducible apply put4_3) | (with_reducible refine blk_else (by omega) ?_) | (with_reducible refine blk_old ?_)))
            have XB : Below w.heap.size w v1 := by
              rw [hv1]
              (repeat' (first | (with_reducible exact HB1.out) | (with_reducible exact Below.refl _ _) | (with_reducible refine below_drewN _ ?_) | (with_reducible refine Below.drew ?_) | (with_reducible refine Below.setCell ?_ (by first | (simp; done) | omega) _) | (with_reducible refine Below.alloc ?_ (by have := HB1.out.size; simp; omega) _)))
            clear z0_ z1_ z2_ z3_ zf0_ zf1_ zf2_ zf3_ zn_ zm_ zl_ a0_ a1_ a2_ a3_ af0_ af1_ af2_ af3_ an_ am_ al_
            clear hv1 Hz1 Ha1 HB1
            obtain ⟨z0_, z1_, z2_, z3_, -⟩ := at4 Xz
            refine bodyPost_ret (v := .agg #[.int .i64 i, .int .i64 s, .int .i64 M, .int .i64 M]) (by simp [results, Try.results60, go_sem, z0_, z1_, z2_, z3_]) rfl ⟨rfl, XB⟩
          · have gg : decide (M < R) = false := decide_eq_false hg
            rw [show min R M = R by omega]
            clear hg
            go_enter Try.func60, Try.ntmps60
            go_wp2_with fail
            refine cl_gen ?_
            intro v0 hv0
            have XB : Below w.heap.size w v0 := by
              rw [hv0]
              (repeat' (first | (with_reducible exact Below.refl _ _) | (with_reducible assumption) | (with_reducible refine below_drewN _ ?_) | (with_reducible refine Below.drew ?_) | (with_reducible refine Below.setCell ?_ (by simp) _) | (with_reducible refine Below.alloc ?_ (by simp; try omega) _)))
            have Xa : v0.heap[w.heap.size]? = some (.cells #[.int .i64 i, .int .i64 s, .int .i64 M, .int .i64 v] 121 (0, 0)) := by
              rw [hv0]
              (repeat' (first | (with_reducible exact heap_alloc_new _ _) | (with_reducible exact blk_new (by first | (simp; done) | omega)) | (with_reducible refine blk_drew ?_) | (with_reducible apply put4_0) | (with_reducible apply put4_1) | (with_reducible apply put4_2) | (with_reducible apply put4_3) | (with_reducible refine blk_else (by omega) ?_) | (with_reducible refine blk_old ?_)))
            have Xz : v0.heap[w.heap.size + 1]? = some (.cells #[.int .i64 0, .int .i64 0, .int .i64 0, .int .i64 0] 121 (0, 0)) := by
              rw [hv0]
              (repeat' (first | (with_reducible exact heap_alloc_new _ _) | (with_reducible exact blk_new (by first | (simp; done) | omega)) | (with_reducible refine blk_drew ?_) | (with_reducible apply put4_0) | (with_reducible apply put4_1) | (with_reducible apply put4_2) | (with_reducible apply put4_3) | (with_reducible refine blk_else (by omega) ?_) | (with_reducible refine blk_old ?_)))
            obtain ⟨Bz, hBz⟩ : ∃ x, x = w.heap.size + 1 := ⟨_, rfl⟩
            rw [← hBz] at Xz
            try rw [← hBz]
            have lez : w.heap.size ≤ Bz := by omega
            obtain ⟨Ba, hBa⟩ : ∃ x, x = w.heap.size := ⟨_, rfl⟩
            rw [← hBa] at Xa
            try rw [← hBa]
            have naz : ¬ Ba = Bz := by omega
            have nza : ¬ Bz = Ba := fun h => naz h.symm
            have lea : w.heap.size ≤ Ba := by omega
            clear hBa hBz
            clear hv0
            refine (MY.out _).mono ?_
            rintro e w1 ⟨rfl, bb⟩
            have Hz1 := Lib.hid (blk_call bb Xz)
            have Ha1 := Lib.hid (blk_call bb Xa)
            have HB1 := Lib.hid (bel_onto XB bb XB.size)
            clear Xz Xa XB bb
            obtain ⟨z0_, z1_, z2_, z3_, zf0_, zf1_, zf2_, zf3_⟩ := at4 Hz1.out
            have zn_ := ne_blk Hz1.out
            have zm_ := Ne.symm (a := Bz) zn_
            have zl_ := lt_blk Hz1.out
            obtain ⟨a0_, a1_, a2_, a3_, af0_, af1_, af2_, af3_⟩ := at4 Ha1.out
            have an_ := ne_blk Ha1.out
            have am_ := Ne.symm (a := Ba) an_
            have al_ := lt_blk Ha1.out
            go_wp2
            (try simp only [Exit.inBlock, Exit.then])
            refine bp_gen ?_
            intro v1 hv1
            have Xz : v1.heap[Bz]? = some (.cells #[.int .i64 i, .int .i64 s, .int .i64 M, .int .i64 R] 121 (0, 0)) := by
              rw [hv1]
              (repeat' (first | (with_reducible exact Hz1.out) | (with_reducible exact heap_alloc_new _ _) | (with_reducible exact blk_new (by first | (simp; done) | omega)) | (with_reducible refine blk_drew ?_) | (with_reducible apply put4_0) | (with_reducible apply put4_1) | (with_reducible apply put4_2) | (with_reducible apply put4_3) | (with_reducible refine blk_else (by omega) ?_) | (with_reducible refine blk_old ?_)))
            have XB : Below w.heap.size w v1 := by
              rw [hv1]
              (repeat' (first | (with_reducible exact HB1.out) | (with_reducible exact Below.refl _ _) | (with_reducible refine below_drewN _ ?_) | (with_reducible refine Below.drew ?_) | (with_reducible refine Below.setCell ?_ (by first | (simp; done) | omega) _) | (with_reducible refine Below.alloc ?_ (by have := HB1.out.size; simp; omega) _)))
            clear z0_ z1_ z2_ z3_ zf0_ zf1_ zf2_ zf3_ zn_ zm_ zl_ a0_ a1_ a2_ a3_ af0_ af1_ af2_ af3_ an_ am_ al_
            clear hv1 Hz1 Ha1 HB1
            obtain ⟨z0_, z1_, z2_, z3_, -⟩ := at4 Xz
            refine bodyPost_ret (v := .agg #[.int .i64 i, .int .i64 s, .int .i64 M, .int .i64 R]) (by simp [results, Try.results60, go_sem, z0_, z1_, z2_, z3_]) rfl ⟨rfl, XB⟩
      · obtain rfl : M = 0 := hM
        rcases hc with ⟨gx, rfl⟩ | ⟨gx, rfl⟩
        · by_cases hg : 0 < R
          · have gg : decide (0 < R) = true := decide_eq_true hg
            rw [show min R 0 = 0 by omega]
            clear hg
            go_enter Try.func60, Try.ntmps60
            go_wp2_with fail
            refine cl_gen ?_
            intro v0 hv0
            have XB : Below w.heap.size w v0 := by
              rw [hv0]
              (repeat' (first | (with_reducible exact Below.refl _ _) | (with_reducible assumption) | (with_reducible refine below_drewN _ ?_) | (with_reducible refine Below.drew ?_) | (with_reducible refine Below.setCell ?_ (by simp) _) | (with_reducible refine Below.alloc ?_ (by simp; try omega) _)))
            have Xa : v0.heap[w.heap.size]? = some (.cells #[.int .i64 i, .int .i64 s, .int .i64 h, .int .i64 v] 121 (0, 0)) := by
              rw [hv0]
              (repeat' (first | (with_reducible exact heap_alloc_new _ _) | (with_reducible exact blk_new (by first | (simp; done) | omega)) | (with_reducible refine blk_drew ?_) | (with_reducible apply put4_0) | (with_reducible apply put4_1) | (with_reducible apply put4_2) | (with_reducible apply put4_3) | (with_reducible refine blk_else (by omega) ?_) | (with_reducible refine blk_old ?_)))
            have Xz : v0.heap[w.heap.size + 1]? = some (.cells #[.int .i64 0, .int .i64 0, .int .i64 0, .int .i64 0] 121 (0, 0)) := by
              rw [hv0]
              (repeat' (first | (with_reducible exact heap_alloc_new _ _) | (with_reducible exact blk_new (by first | (simp; done) | omega)) | (with_reducible refine blk_drew ?_) | (with_reducible apply put4_0) | (with_reducible apply put4_1) | (with_reducible apply put4_2) | (with_reducible apply put4_3) | (with_reducible refine blk_else (by omega) ?_) | (with_reducible refine blk_old ?_)))
            obtain ⟨Bz, hBz⟩ : ∃ x, x = w.heap.size + 1 := ⟨_, rfl⟩
            rw [← hBz] at Xz
            try rw [← hBz]
            have lez : w.heap.size ≤ Bz := by omega
            obtain ⟨Ba, hBa⟩ : ∃ x, x = w.heap.size := ⟨_, rfl⟩
            rw [← hBa] at Xa
            try rw [← hBa]
            have naz : ¬ Ba = Bz := by omega
            have nza : ¬ Bz = Ba := fun h => naz h.symm
            have lea : w.heap.size ≤ Ba := by omega
            clear hBa hBz
            clear hv0
            refine (MY.out _).mono ?_
            rintro e w1 ⟨rfl, bb⟩
            have Hz1 := Lib.hid (blk_call bb Xz)
            have Ha1 := Lib.hid (blk_call bb Xa)
            have HB1 := Lib.hid (bel_onto XB bb XB.size)
            clear Xz Xa XB bb
            obtain ⟨z0_, z1_, z2_, z3_, zf0_, zf1_, zf2_, zf3_⟩ := at4 Hz1.out
            have zn_ := ne_blk Hz1.out
            have zm_ := Ne.symm (a := Bz) zn_
            have zl_ := lt_blk Hz1.out
            obtain ⟨a0_, a1_, a2_, a3_, af0_, af1_, af2_, af3_⟩ := at4 Ha1.out
            have an_ := ne_blk Ha1.out
            have am_ := Ne.symm (a := Ba) an_
            have al_ := lt_blk Ha1.out
            go_wp2
            (try simp only [Exit.inBlock, Exit.then])
            refine bp_gen ?_
            intro v1 hv1
            have Xz : v1.heap[Bz]? = some (.cells #[.int .i64 i, .int .i64 s, .int .i64 h, .int .i64 0] 121 (0, 0)) := by
              rw [hv1]
              (repeat' (first | (with_reducible exact Hz1.out) | (with_reducible exact heap_alloc_new _ _) | (with_reducible exact blk_new (by first | (simp; done) | omega)) | (with_reducible refine blk_drew ?_) | (with_reducible apply put4_0) | (with_reducible apply put4_1) | (with_reducible apply put4_2) | (with_reducible apply put4_3) | (with_reducible refine blk_else (by omega) ?_) | (with_reducible refine blk_old ?_)))
            have XB : Below w.heap.size w v1 := by
              rw [hv1]
              (repeat' (first | (with_reducible exact HB1.out) | (with_reducible exact Below.refl _ _) | (with_reducible refine below_drewN _ ?_) | (with_reducible refine Below.drew ?_) | (with_reducible refine Below.setCell ?_ (by first | (simp; done) | omega) _) | (with_reducible refine Below.alloc ?_ (by have := HB1.out.size; simp; omega) _)))
            clear z0_ z1_ z2_ z3_ zf0_ zf1_ zf2_ zf3_ zn_ zm_ zl_ a0_ a1_ a2_ a3_ af0_ af1_ af2_ af3_ an_ am_ al_
            clear hv1 Hz1 Ha1 HB1
            obtain ⟨z0_, z1_, z2_, z3_, -⟩ := at4 Xz
            refine bodyPost_ret (v := .agg #[.int .i64 i, .int .i64 s, .int .i64 h, .int .i64 0]) (by simp [results, Try.results60, go_sem, z0_, z1_, z2_, z3_]) rfl ⟨rfl, XB⟩
          · have gg : decide (0 < R) = false := decide_eq_false hg
            rw [show min R 0 = R by omega]
            clear hg
            go_enter Try.func60, Try.ntmps60
            go_wp2_with fail
            refine cl_gen ?_
            intro v0 hv0
            have XB : Below w.heap.size w v0 := by
              rw [hv0]
              (repeat' (first | (with_reducible exact Below.refl _ _) | (with_reducible assumption) | (with_reducible refine below_drewN _ ?_) | (with_reducible refine Below.drew ?_) | (with_reducible refine Below.setCell ?_ (by simp) _) | (with_reducible refine Below.alloc ?_ (by simp; try omega) _)))
            have Xa : v0.heap[w.heap.size]? = some (.cells #[.int .i64 i, .int .i64 s, .int .i64 h, .int .i64 v] 121 (0, 0)) := by
              rw [hv0]
              (repeat' (first | (with_reducible exact heap_alloc_new _ _) | (with_reducible exact blk_new (by first | (simp; done) | omega)) | (with_reducible refine blk_drew ?_) | (with_reducible apply put4_0) | (with_reducible apply put4_1) | (with_reducible apply put4_2) | (with_reducible apply put4_3) | (with_reducible refine blk_else (by omega) ?_) | (with_reducible refine blk_old ?_)))
            have Xz : v0.heap[w.heap.size + 1]? = some (.cells #[.int .i64 0, .int .i64 0, .int .i64 0, .int .i64 0] 121 (0, 0)) := by
              rw [hv0]
              (repeat' (first | (with_reducible exact heap_alloc_new _ _) | (with_reducible exact blk_new (by first | (simp; done) | omega)) | (with_reducible refine blk_drew ?_) | (with_reducible apply put4_0) | (with_reducible apply put4_1) | (with_reducible apply put4_2) | (with_reducible apply put4_3) | (with_reducible refine blk_else (by omega) ?_) | (with_reducible refine blk_old ?_)))
            obtain ⟨Bz, hBz⟩ : ∃ x, x = w.heap.size + 1 := ⟨_, rfl⟩
            rw [← hBz] at Xz
            try rw [← hBz]
            have lez : w.heap.size ≤ Bz := by omega
            obtain ⟨Ba, hBa⟩ : ∃ x, x = w.heap.size := ⟨_, rfl⟩
            rw [← hBa] at Xa
            try rw [← hBa]
            have naz : ¬ Ba = Bz := by omega
            have nza : ¬ Bz = Ba := fun h => naz h.symm
            have lea : w.heap.size ≤ Ba := by omega
            clear hBa hBz
            clear hv0
            refine (MY.out _).mono ?_
            rintro e w1 ⟨rfl, bb⟩
            have Hz1 := Lib.hid (blk_call bb Xz)
            have Ha1 := Lib.hid (blk_call bb Xa)
            have HB1 := Lib.hid (bel_onto XB bb XB.size)
            clear Xz Xa XB bb
            obtain ⟨z0_, z1_, z2_, z3_, zf0_, zf1_, zf2_, zf3_⟩ := at4 Hz1.out
            have zn_ := ne_blk Hz1.out
            have zm_ := Ne.symm (a := Bz) zn_
            have zl_ := lt_blk Hz1.out
            obtain ⟨a0_, a1_, a2_, a3_, af0_, af1_, af2_, af3_⟩ := at4 Ha1.out
            have an_ := ne_blk Ha1.out
            have am_ := Ne.symm (a := Ba) an_
            have al_ := lt_blk Ha1.out
            go_wp2
            (try simp only [Exit.inBlock, Exit.then])
            refine bp_gen ?_
            intro v1 hv1
            have Xz : v1.heap[Bz]? = some (.cells #[.int .i64 i, .int .i64 s, .int .i64 h, .int .i64 R] 121 (0, 0)) := by
              rw [hv1]
              (repeat' (first | (with_reducible exact Hz1.out) | (with_reducible exact heap_alloc_new _ _) | (with_reducible exact blk_new (by first | (simp; done) | omega)) | (with_reducible refine blk_drew ?_) | (with_reducible apply put4_0) | (with_reducible apply put4_1) | (with_reducible apply put4_2) | (with_reducible apply put4_3) | (with_reducible refine blk_else (by omega) ?_) | (with_reducible refine blk_old ?_)))
            have XB : Below w.heap.size w v1 := by
              rw [hv1]
              (repeat' (first | (with_reducible exact HB1.out) | (with_reducible exact Below.refl _ _) | (with_reducible refine below_drewN _ ?_) | (with_reducible refine Below.drew ?_) | (with_reducible refine Below.setCell ?_ (by first | (simp; done) | omega) _) | (with_reducible refine Below.alloc ?_ (by have := HB1.out.size; simp; omega) _)))
            clear z0_ z1_ z2_ z3_ zf0_ zf1_ zf2_ zf3_ zn_ zm_ zl_ a0_ a1_ a2_ a3_ af0_ af1_ af2_ af3_ an_ am_ al_
            clear hv1 Hz1 Ha1 HB1
            obtain ⟨z0_, z1_, z2_, z3_, -⟩ := at4 Xz
            refine bodyPost_ret (v := .agg #[.int .i64 i, .int .i64 s, .int .i64 h, .int .i64 R]) (by simp [results, Try.results60, go_sem, z0_, z1_, z2_, z3_]) rfl ⟨rfl, XB⟩
        · by_cases hg : 0 < R
          · have gg : decide (0 < R) = true := decide_eq_true hg
            rw [show min R 0 = 0 by omega]
            clear hg
            go_enter Try.func60, Try.ntmps60
            go_wp2_with fail
            refine cl_gen ?_
            intro v0 hv0
            have XB : Below w.heap.size w v0 := by
              rw [hv0]
              (repeat' (first | (with_reducible exact Below.refl _ _) | (with_reducible assumption) | (with_reducible refine below_drewN _ ?_) | (with_reducible refine Below.drew ?_) | (with_reducible refine Below.setCell ?_ (by simp) _) | (with_reducible refine Below.alloc ?_ (by simp; try omega) _)))
            have Xa : v0.heap[w.heap.size]? = some (.cells #[.int .i64 i, .int .i64 s, .int .i64 h, .int .i64 v] 121 (0, 0)) := by
              rw [hv0]
              (repeat' (first | (with_reducible exact heap_alloc_new _ _) | (with_reducible exact blk_new (by first | (simp; done) | omega)) | (with_reducible refine blk_drew ?_) | (with_reducible apply put4_0) | (with_reducible apply put4_1) | (with_reducible apply put4_2) | (with_reducible apply put4_3) | (with_reducible refine blk_else (by omega) ?_) | (with_reducible refine blk_old ?_)))
            have Xz : v0.heap[w.heap.size + 1]? = some (.cells #[.int .i64 0, .int .i64 0, .int .i64 0, .int .i64 0] 121 (0, 0)) := by
              rw [hv0]
              (repeat' (first | (with_reducible exact heap_alloc_new _ _) | (with_reducible exact blk_new (by first | (simp; done) | omega)) | (with_reducible refine blk_drew ?_) | (with_reducible apply put4_0) | (with_reducible apply put4_1) | (with_reducible apply put4_2) | (with_reducible apply put4_3) | (with_reducible refine blk_else (by omega) ?_) | (with_reducible refine blk_old ?_)))
            obtain ⟨Bz, hBz⟩ : ∃ x, x = w.heap.size + 1 := ⟨_, rfl⟩
            rw [← hBz] at Xz
            try rw [← hBz]
            have lez : w.heap.size ≤ Bz := by omega
            obtain ⟨Ba, hBa⟩ : ∃ x, x = w.heap.size := ⟨_, rfl⟩
            rw [← hBa] at Xa
            try rw [← hBa]
            have naz : ¬ Ba = Bz := by omega
            have nza : ¬ Bz = Ba := fun h => naz h.symm
            have lea : w.heap.size ≤ Ba := by omega
            clear hBa hBz
            clear hv0
            refine (MY.out _).mono ?_
            rintro e w1 ⟨rfl, bb⟩
            have Hz1 := Lib.hid (blk_call bb Xz)
            have Ha1 := Lib.hid (blk_call bb Xa)
            have HB1 := Lib.hid (bel_onto XB bb XB.size)
            clear Xz Xa XB bb
            obtain ⟨z0_, z1_, z2_, z3_, zf0_, zf1_, zf2_, zf3_⟩ := at4 Hz1.out
            have zn_ := ne_blk Hz1.out
            have zm_ := Ne.symm (a := Bz) zn_
            have zl_ := lt_blk Hz1.out
            obtain ⟨a0_, a1_, a2_, a3_, af0_, af1_, af2_, af3_⟩ := at4 Ha1.out
            have an_ := ne_blk Ha1.out
            have am_ := Ne.symm (a := Ba) an_
            have al_ := lt_blk Ha1.out
            go_wp2
            (try simp only [Exit.inBlock, Exit.then])
            refine bp_gen ?_
            intro v1 hv1
            have Xz : v1.heap[Bz]? = some (.cells #[.int .i64 i, .int .i64 s, .int .i64 h, .int .i64 0] 121 (0, 0)) := by
              rw [hv1]
              (repeat' (first | (with_reducible exact Hz1.out) | (with_reducible exact heap_alloc_new _ _) | (with_reducible exact blk_new (by first | (simp; done) | omega)) | (with_reducible refine blk_drew ?_) | (with_reducible apply put4_0) | (with_reducible apply put4_1) | (with_reducible apply put4_2) | (with_reducible apply put4_3) | (with_reducible refine blk_else (by omega) ?_) | (with_reducible refine blk_old ?_)))
            have XB : Below w.heap.size w v1 := by
              rw [hv1]
              (repeat' (first | (with_reducible exact HB1.out) | (with_reducible exact Below.refl _ _) | (with_reducible refine below_drewN _ ?_) | (with_reducible refine Below.drew ?_) | (with_reducible refine Below.setCell ?_ (by first | (simp; done) | omega) _) | (with_reducible refine Below.alloc ?_ (by have := HB1.out.size; simp; omega) _)))
            clear z0_ z1_ z2_ z3_ zf0_ zf1_ zf2_ zf3_ zn_ zm_ zl_ a0_ a1_ a2_ a3_ af0_ af1_ af2_ af3_ an_ am_ al_
            clear hv1 Hz1 Ha1 HB1
            obtain ⟨z0_, z1_, z2_, z3_, -⟩ := at4 Xz
            refine bodyPost_ret (v := .agg #[.int .i64 i, .int .i64 s, .int .i64 h, .int .i64 0]) (by simp [results, Try.results60, go_sem, z0_, z1_, z2_, z3_]) rfl ⟨rfl, XB⟩
          · have gg : decide (0 < R) = false := decide_eq_false hg
            rw [show min R 0 = R by omega]
            clear hg
            go_enter Try.func60, Try.ntmps60
            go_wp2_with fail
            refine cl_gen ?_
            intro v0 hv0
            have XB : Below w.heap.size w v0 := by
              rw [hv0]
              (repeat' (first | (with_reducible exact Below.refl _ _) | (with_reducible assumption) | (with_reducible refine below_drewN _ ?_) | (with_reducible refine Below.drew ?_) | (with_reducible refine Below.setCell ?_ (by simp) _) | (with_reducible refine Below.alloc ?_ (by simp; try omega) _)))
            have Xa : v0.heap[w.heap.size]? = some (.cells #[.int .i64 i, .int .i64 s, .int .i64 h, .int .i64 v] 121 (0, 0)) := by
              rw [hv0]
              (repeat' (first | (with_reducible exact heap_alloc_new _ _) | (with_reducible exact blk_new (by first | (simp; done) | omega)) | (with_reducible refine blk_drew ?_) | (with_reducible apply put4_0) | (with_reducible apply put4_1) | (with_reducible apply put4_2) | (with_reducible apply put4_3) | (with_reducible refine blk_else (by omega) ?_) | (with_reducible refine blk_old ?_)))
            have Xz : v0.heap[w.heap.size + 1]? = some (.cells #[.int .i64 0, .int .i64 0, .int .i64 0, .int .i64 0] 121 (0, 0)) := by
              rw [hv0]
              (repeat' (first | (with_reducible exact heap_alloc_new _ _) | (with_reducible exact blk_new (by first | (simp; done) | omega)) | (with_reducible refine blk_drew ?_) | (with_reducible apply put4_0) | (with_reducible apply put4_1) | (with_reducible apply put4_2) | (with_reducible apply put4_3) | (with_reducible refine blk_else (by omega) ?_) | (with_reducible refine blk_old ?_)))
            obtain ⟨Bz, hBz⟩ : ∃ x, x = w.heap.size + 1 := ⟨_, rfl⟩
            rw [← hBz] at Xz
            try rw [← hBz]
            have lez : w.heap.size ≤ Bz := by omega
            obtain ⟨Ba, hBa⟩ : ∃ x, x = w.heap.size := ⟨_, rfl⟩
            rw [← hBa] at Xa
            try rw [← hBa]
            have naz : ¬ Ba = Bz := by omega
            have nza : ¬ Bz = Ba := fun h => naz h.symm
            have lea : w.heap.size ≤ Ba := by omega
            clear hBa hBz
            clear hv0
            refine (MY.out _).mono ?_
            rintro e w1 ⟨rfl, bb⟩
            have Hz1 := Lib.hid (blk_call bb Xz)
            have Ha1 := Lib.hid (blk_call bb Xa)
            have HB1 := Lib.hid (bel_onto XB bb XB.size)
            clear Xz Xa XB bb
            obtain ⟨z0_, z1_, z2_, z3_, zf0_, zf1_, zf2_, zf3_⟩ := at4 Hz1.out
            have zn_ := ne_blk Hz1.out
            have zm_ := Ne.symm (a := Bz) zn_
            have zl_ := lt_blk Hz1.out
            obtain ⟨a0_, a1_, a2_, a3_, af0_, af1_, af2_, af3_⟩ := at4 Ha1.out
            have an_ := ne_blk Ha1.out
            have am_ := Ne.symm (a := Ba) an_
            have al_ := lt_blk Ha1.out
            go_wp2
            (try simp only [Exit.inBlock, Exit.then])
            refine bp_gen ?_
            intro v1 hv1
            have Xz : v1.heap[Bz]? = some (.cells #[.int .i64 i, .int .i64 s, .int .i64 h, .int .i64 R] 121 (0, 0)) := by
              rw [hv1]
              (repeat' (first | (with_reducible exact Hz1.out) | (with_reducible exact heap_alloc_new _ _) | (with_reducible exact blk_new (by first | (simp; done) | omega)) | (with_reducible refine blk_drew ?_) | (with_reducible apply put4_0) | (with_reducible apply put4_1) | (with_reducible apply put4_2) | (with_reducible apply put4_3) | (with_reducible refine blk_else (by omega) ?_) | (with_reducible refine blk_old ?_)))
            have XB : Below w.heap.size w v1 := by
              rw [hv1]
              (repeat' (first | (with_reducible exact HB1.out) | (with_reducible exact Below.refl _ _) | (with_reducible refine below_drewN _ ?_) | (with_reducible refine Below.drew ?_) | (with_reducible refine Below.setCell ?_ (by first | (simp; done) | omega) _) | (with_reducible refine Below.alloc ?_ (by have := HB1.out.size; simp; omega) _)))
            clear z0_ z1_ z2_ z3_ zf0_ zf1_ zf2_ zf3_ zn_ zm_ zl_ a0_ a1_ a2_ a3_ af0_ af1_ af2_ af3_ an_ am_ al_
            clear hv1 Hz1 Ha1 HB1
            obtain ⟨z0_, z1_, z2_, z3_, -⟩ := at4 Xz
            refine bodyPost_ret (v := .agg #[.int .i64 i, .int .i64 s, .int .i64 h, .int .i64 R]) (by simp [results, Try.results60, go_sem, z0_, z1_, z2_, z3_]) rfl ⟨rfl, XB⟩
  · rw [decide_eq_false hok] at MY
    rw [show CD.tick ⟨i, s, h, v⟩ x b = ⟨0, 0, 0, 0⟩ from if_neg hok]
    simp only [cd_val]
    clear hok
    go_enter Try.func60, Try.ntmps60
    go_wp2_with fail
    refine cl_gen ?_
    intro v0 hv0
    have XB : Below w.heap.size w v0 := by
      rw [hv0]
      (repeat' (first | (with_reducible exact Below.refl _ _) | (with_reducible assumption) | (with_reducible refine below_drewN _ ?_) | (with_reducible refine Below.drew ?_) | (with_reducible refine Below.setCell ?_ (by simp) _) | (with_reducible refine Below.alloc ?_ (by simp; try omega) _)))
    have Xa : v0.heap[w.heap.size]? = some (.cells #[.int .i64 i, .int .i64 s, .int .i64 h, .int .i64 v] 121 (0, 0)) := by
      rw [hv0]
      (repeat' (first | (with_reducible exact heap_alloc_new _ _) | (with_reducible exact blk_new (by first | (simp; done) | omega)) | (with_reducible refine blk_drew ?_) | (with_reducible apply put4_0) | (with_reducible apply put4_1) | (with_reducible apply put4_2) | (with_reducible apply put4_3) | (with_reducible refine blk_else (by omega) ?_) | (with_reducible refine blk_old ?_)))
    have Xz : v0.heap[w.heap.size + 1]? = some (.cells #[.int .i64 0, .int .i64 0, .int .i64 0, .int .i64 0] 121 (0, 0)) := by
      rw [hv0]
      (repeat' (first | (with_reducible exact heap_alloc_new _ _) | (with_reducible exact blk_new (by first | (simp; done) | omega)) | (with_reducible refine blk_drew ?_) | (with_reducible apply put4_0) | (with_reducible apply put4_1) | (with_reducible apply put4_2) | (with_reducible apply put4_3) | (with_reducible refine blk_else (by omega) ?_) | (with_reducible refine blk_old ?_)))
    obtain ⟨Bz, hBz⟩ : ∃ x, x = w.heap.size + 1 := ⟨_, rfl⟩
    rw [← hBz] at Xz
    try rw [← hBz]
    have lez : w.heap.size ≤ Bz := by omega
    obtain ⟨Ba, hBa⟩ : ∃ x, x = w.heap.size := ⟨_, rfl⟩
    rw [← hBa] at Xa
    try rw [← hBa]
    have naz : ¬ Ba = Bz := by omega
    have nza : ¬ Bz = Ba := fun h => naz h.symm
    have lea : w.heap.size ≤ Ba := by omega
    clear hBa hBz
    clear hv0
    refine (MY.out _).mono ?_
    rintro e w1 ⟨rfl, bb⟩
    have Hz1 := Lib.hid (blk_call bb Xz)
    have Ha1 := Lib.hid (blk_call bb Xa)
    have HB1 := Lib.hid (bel_onto XB bb XB.size)
    clear Xz Xa XB bb
    obtain ⟨z0_, z1_, z2_, z3_, zf0_, zf1_, zf2_, zf3_⟩ := at4 Hz1.out
    have zn_ := ne_blk Hz1.out
    have zm_ := Ne.symm (a := Bz) zn_
    have zl_ := lt_blk Hz1.out
    obtain ⟨a0_, a1_, a2_, a3_, af0_, af1_, af2_, af3_⟩ := at4 Ha1.out
    have an_ := ne_blk Ha1.out
    have am_ := Ne.symm (a := Ba) an_
    have al_ := lt_blk Ha1.out
    go_wp2
    (try simp only [Exit.inBlock, Exit.then])
    refine bp_gen ?_
    intro v1 hv1
    have Xz : v1.heap[Bz]? = some (.cells #[.int .i64 0, .int .i64 0, .int .i64 0, .int .i64 0] 121 (0, 0)) := by
      rw [hv1]
      (repeat' (first | (with_reducible exact Hz1.out) | (with_reducible exact heap_alloc_new _ _) | (with_reducible exact blk_new (by first | (simp; done) | omega)) | (with_reducible refine blk_drew ?_) | (with_reducible apply put4_0) | (with_reducible apply put4_1) | (with_reducible apply put4_2) | (with_reducible apply put4_3) | (with_reducible refine blk_else (by omega) ?_) | (with_reducible refine blk_old ?_)))
    have XB : Below w.heap.size w v1 := by
      rw [hv1]
      (repeat' (first | (with_reducible exact HB1.out) | (with_reducible exact Below.refl _ _) | (with_reducible refine below_drewN _ ?_) | (with_reducible refine Below.drew ?_) | (with_reducible refine Below.setCell ?_ (by first | (simp; done) | omega) _) | (with_reducible refine Below.alloc ?_ (by have := HB1.out.size; simp; omega) _)))
    clear z0_ z1_ z2_ z3_ zf0_ zf1_ zf2_ zf3_ zn_ zm_ zl_ a0_ a1_ a2_ a3_ af0_ af1_ af2_ af3_ an_ am_ al_
    clear hv1 Hz1 Ha1 HB1
    obtain ⟨z0_, z1_, z2_, z3_, -⟩ := at4 Xz
    refine bodyPost_ret (v := .agg #[.int .i64 0, .int .i64 0, .int .i64 0, .int .i64 0]) (by simp [results, Try.results60, go_sem, z0_, z1_, z2_, z3_]) rfl ⟨rfl, XB⟩
end Go.Proofs.Ytcieggckmpabnaa
