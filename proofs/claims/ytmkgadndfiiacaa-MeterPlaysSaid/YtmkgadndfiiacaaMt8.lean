/-
  What the document's answer of layer 21 makes of any meters and packets; of two rates: and ticks. No condition but that numbers are words.
-/
import Derived.Test.YtmkgadndfiiacaaMt7
namespace Go.Proofs.Ytmkgadndfiiacaa
set_option linter.unusedVariables false
set_option linter.unusedSimpArgs false
open Go.ChangeShapes Go.WideShapes Go.ChangeAt Go.RowKit
attribute [local go_sem] alloc_drewN setCell_drewN

set_option maxRecDepth 100000 in
set_option maxHeartbeats 4000000 in
theorem mo_rcol (m : MO) (hm : m.wd) (k : Int) (k0 : 0 ≤ k) (k1 : k ≤ 18446744073709551615) (c : Int) (w : World) :
    Calls Try.prog 22 #[m.val, .int .u64 k, .int .i64 c] w fun e w' => e = .returned (.tuple #[(m.col k c).1.val, .int .i64 (m.col k c).2]) ∧ Below w.heap.size w w' := by
  obtain ⟨⟨r0, r1⟩, ⟨n0, n1⟩, ⟨f0, f1⟩, ⟨a0, a1⟩, b0, b1⟩ := hm
  obtain ⟨r, n, f, a, b⟩ := m
  dsimp only at r0 r1 n0 n1 f0 f1 a0 a1 b0 b1
  have MY := Lib.hid (fun (W : World) => ((mo_rmay r n f a b W).mono (by rintro e w' ⟨rfl, rfl⟩; exact ⟨rfl, (Below.refl _ W).alloc (Nat.le_refl _) _⟩) : Calls Try.prog 13 #[.agg #[.int .u64 r, .int .u64 n, .int .u64 f, .int .u64 a, .int .u64 b]] W fun e w' => e = .returned (.int .i64 (mor r n f a b)) ∧ Below W.heap.size W w'))
  unfold MO.col
  by_cases hok : MO.ok ⟨r, n, f, a, b⟩
  · rw [if_pos hok]
    rw [mor_ok.2 hok] at MY
    clear hok
    dsimp only
    by_cases h3 : c = 3
    · rw [if_pos h3]
      have g3 : (c != 3) = false := by simp [h3]
      have g2 : (c != 2) = true := by simp [h3]
      simp only [mo_val]
      clear h3
      go_enter Try.func22, Try.ntmps22
      go_wp2_with fail
      refine cl_gen ?_
      intro v0 hv0
      have XB : Below w.heap.size w v0 := by
        rw [hv0]
        (repeat' (first | (with_reducible exact Below.refl _ _) | (with_reducible assumption) | (with_reducible refine below_drewN _ ?_) | (with_reducible refine Below.drew ?_) | (with_reducible refine Below.setCell ?_ (by simp) _) | (with_reducible refine Below.alloc ?_ (by simp; try omega) _)))
      have Xa : v0.heap[w.heap.size]? = some (.cells #[.int .u64 r, .int .u64 n, .int .u64 f, .int .u64 a, .int .u64 b] 24 (0, 0)) := by
        rw [hv0]
        (repeat' (first | (with_reducible exact heap_alloc_new _ _) | (with_reducible exact blk_new (by first | (simp; done) | omega)) | (with_reducible refine blk_drew ?_) | (with_reducible apply put5_0) | (with_reducible apply put5_1) | (with_reducible apply put5_2) | (with_reducible apply put5_3) | (with_reducible apply put5_4) | (with_reducible refine blk_else (by omega) ?_) | (with_reducible refine blk_old ?_)))
      have Xz : v0.heap[w.heap.size + 1]? = some (.cells #[.int .u64 0, .int .u64 0, .int .u64 0, .int .u64 0, .int .u64 0] 24 (0, 0)) := by
        rw [hv0]
        (repeat' (first | (with_reducible exact heap_alloc_new _ _) | (with_reducible exact blk_new (by first | (simp; done) | omega)) | (with_reducible refine blk_drew ?_) | (with_reducible apply put5_0) | (with_reducible apply put5_1) | (with_reducible apply put5_2) | (with_reducible apply put5_3) | (with_reducible apply put5_4) | (with_reducible refine blk_else (by omega) ?_) | (with_reducible refine blk_old ?_)))
      obtain ⟨Bz, hBz⟩ : ∃ x, x = w.heap.size + 1 := ⟨_, rfl⟩
      rw [← hBz] at Xz
      try rw [← hBz]
      have lez : w.heap.size ≤ Bz := by omega
      obtain ⟨Ba, hBa⟩ : ∃ x, x = w.heap.size := ⟨_, rfl⟩
      rw [← hBa] at Xa
      try rw [← hBa]
      have naz : ¬ Ba = Bz := by omega
      have nza : ¬ Bz = Ba := fun h => naz h.symm
      have lea : w.heap.size ≤ Ba := by omega
      clear hBa hBz
      clear hv0
      refine (MY.out _).mono ?_
      rintro e w1 ⟨rfl, bb⟩
      have Hz1 := Lib.hid (blk_call bb Xz)
      have Ha1 := Lib.hid (blk_call bb Xa)
      have HB1 := Lib.hid (bel_onto XB bb XB.size)
      clear Xz Xa XB bb
      obtain ⟨z0_, z1_, z2_, z3_, z4_, zf0_, zf1_, zf2_, zf3_, zf4_⟩ := at5 Hz1.out
      have zn_ := ne_blk Hz1.out
      have zm_ := Ne.symm (a := Bz) zn_
      have zl_ := lt_blk Hz1.out
      obtain ⟨a0_, a1_, a2_, a3_, a4_, af0_, af1_, af2_, af3_, af4_⟩ := at5 Ha1.out
      have an_ := ne_blk Ha1.out
      have am_ := Ne.symm (a := Ba) an_
      have al_ := lt_blk Ha1.out
      go_wp2
      (try simp only [Exit.inBlock, Exit.then])
      refine bp_gen ?_
      intro v1 hv1
      have Xz : v1.heap[Bz]? = some (.cells #[.int .u64 r, .int .u64 n, .int .u64 f, .int .u64 a, .int .u64 b] 24 (0, 0)) := by
        rw [hv1]
        (repeat' (first | (with_reducible exact Hz1.out) | (with_reducible exact heap_alloc_new _ _) | (with_reducible exact blk_new (by first | (simp; done) | omega)) | (with_reducible refine blk_drew ?_) | (with_reducible apply put5_0) | (with_reducible apply put5_1) | (with_reducible apply put5_2) | (with_reducible apply put5_3) | (with_reducible apply put5_4) | (with_reducible refine blk_else (by omega) ?_) | (with_reducible refine blk_old ?_)))
      have XB : Below w.heap.size w v1 := by
        rw [hv1]
        (repeat' (first | (with_reducible exact HB1.out) | (with_reducible exact Below.refl _ _) | (with_reducible refine below_drewN _ ?_) | (with_reducible refine Below.drew ?_) | (with_reducible refine Below.setCell ?_ (by first | (simp; done) | omega) _) | (with_reducible refine Below.alloc ?_ (by have := HB1.out.size; simp; omega) _)))
      clear z0_ z1_ z2_ z3_ z4_ zf0_ zf1_ zf2_ zf3_ zf4_ zn_ zm_ zl_ a0_ a1_ a2_ a3_ a4_ af0_ af1_ af2_ af3_ af4_ an_ am_ al_
      clear hv1 Hz1 Ha1 HB1
      obtain ⟨z0_, z1_, z2_, z3_, z4_, -⟩ := at5 Xz
      refine bodyPost_ret (v := .tuple #[.agg #[.int .u64 r, .int .u64 n, .int .u64 f, .int .u64 a, .int .u64 b], .int .i64 3]) (by simp [results, Try.results22, go_sem, z0_, z1_, z2_, z3_, z4_]) rfl ⟨rfl, XB⟩
    · rw [if_neg h3]
      have g3 : (c != 3) = true := by simp [h3]
      by_cases h2 : c = 2
      · rw [if_neg (fun x => x.1 h2)]
        have g2 : (c != 2) = false := by simp [h2]
        by_cases hb : k ≤ b
        · rw [if_pos hb]
          have g1 : decide (k ≤ b) = true := decide_eq_true hb
          simp only [mo_val]
          clear h3 h2
          go_enter Try.func22, Try.ntmps22
          go_wp2_with fail
          refine cl_gen ?_
          intro v0 hv0
          have XB : Below w.heap.size w v0 := by
            rw [hv0]
            (repeat' (first | (with_reducible exact Below.refl _ _) | (with_reducible assumption) | (with_reducible refine below_drewN _ ?_) | (with_reducible refine Below.drew ?_) | (with_reducible refine Below.setCell ?_ (by simp) _) | (with_reducible refine Below.alloc ?_ (by simp; try omega) _)))
          have Xa : v0.heap[w.heap.size]? = some (.cells #[.int .u64 r, .int .u64 n, .int .u64 f, .int .u64 a, .int .u64 b] 24 (0, 0)) := by
            rw [hv0]
            (repeat' (first | (with_reducible exact heap_alloc_new _ _) | (with_reducible exact blk_new (by first | (simp; done) | omega)) | (with_reducible refine blk_drew ?_) | (with_reducible apply put5_0) | (with_reducible apply put5_1) | (with_reducible apply put5_2) | (with_reducible apply put5_3) | (with_reducible apply put5_4) | (with_reducible refine blk_else (by omega) ?_) | (with_reducible refine blk_old ?_)))
          have Xz : v0.heap[w.heap.size + 1]? = some (.cells #[.int .u64 0, .int .u64 0, .int .u64 0, .int .u64 0, .int .u64 0] 24 (0, 0)) := by
            rw [hv0]
            (repeat' (first | (with_reducible exact heap_alloc_new _ _) | (with_reducible exact blk_new (by first | (simp; done) | omega)) | (with_reducible refine blk_drew ?_) | (with_reducible apply put5_0) | (with_reducible apply put5_1) | (with_reducible apply put5_2) | (with_reducible apply put5_3) | (with_reducible apply put5_4) | (with_reducible refine blk_else (by omega) ?_) | (with_reducible refine blk_old ?_)))
          obtain ⟨Bz, hBz⟩ : ∃ x, x = w.heap.size + 1 := ⟨_, rfl⟩
          rw [← hBz] at Xz
          try rw [← hBz]
          have lez : w.heap.size ≤ Bz := by omega
          obtain ⟨Ba, hBa⟩ : ∃ x, x = w.heap.size := ⟨_, rfl⟩
          rw [← hBa] at Xa
          try rw [← hBa]
          have naz : ¬ Ba = Bz := by omega
          have nza : ¬ Bz = Ba := fun h => naz h.symm
          have lea : w.heap.size ≤ Ba := by omega
          clear hBa hBz
          clear hv0
          refine (MY.out _).mono ?_
          rintro e w1 ⟨rfl, bb⟩
          have Hz1 := Lib.hid (blk_call bb Xz)
          have Ha1 := Lib.hid (blk_call bb Xa)
          have HB1 := Lib.hid (bel_onto XB bb XB.size)
          clear Xz Xa XB bb
          obtain ⟨z0_, z1_, z2_, z3_, z4_, zf0_, zf1_, zf2_, zf3_, zf4_⟩ := at5 Hz1.out
          have zn_ := ne_blk Hz1.out
          have zm_ := Ne.symm (a := Bz) zn_
          have zl_ := lt_blk Hz1.out
          obtain ⟨a0_, a1_, a2_, a3_, a4_, af0_, af1_, af2_, af3_, af4_⟩ := at5 Ha1.out
          have an_ := ne_blk Ha1.out
          have am_ := Ne.symm (a := Ba) an_
          have al_ := lt_blk Ha1.out
          go_wp2
          (try simp only [Exit.inBlock, Exit.then])
          refine bp_gen ?_
          intro v1 hv1
          have Xz : v1.heap[Bz]? = some (.cells #[.int .u64 r, .int .u64 n, .int .u64 f, .int .u64 a, .int .u64 (b - k)] 24 (0, 0)) := by
            rw [hv1]
            (repeat' (first | (with_reducible exact Hz1.out) | (with_reducible exact heap_alloc_new _ _) | (with_reducible exact blk_new (by first | (simp; done) | omega)) | (with_reducible refine blk_drew ?_) | (with_reducible apply put5_0) | (with_reducible apply put5_1) | (with_reducible apply put5_2) | (with_reducible apply put5_3) | (with_reducible apply put5_4) | (with_reducible refine blk_else (by omega) ?_) | (with_reducible refine blk_old ?_)))
          have XB : Below w.heap.size w v1 := by
            rw [hv1]
            (repeat' (first | (with_reducible exact HB1.out) | (with_reducible exact Below.refl _ _) | (with_reducible refine below_drewN _ ?_) | (with_reducible refine Below.drew ?_) | (with_reducible refine Below.setCell ?_ (by first | (simp; done) | omega) _) | (with_reducible refine Below.alloc ?_ (by have := HB1.out.size; simp; omega) _)))
          clear z0_ z1_ z2_ z3_ z4_ zf0_ zf1_ zf2_ zf3_ zf4_ zn_ zm_ zl_ a0_ a1_ a2_ a3_ a4_ af0_ af1_ af2_ af3_ af4_ an_ am_ al_
          clear hv1 Hz1 Ha1 HB1
          obtain ⟨z0_, z1_, z2_, z3_, z4_, -⟩ := at5 Xz
          refine bodyPost_ret (v := .tuple #[.agg #[.int .u64 r, .int .u64 n, .int .u64 f, .int .u64 a, .int .u64 (b - k)], .int .i64 2]) (by simp [results, Try.results22, go_sem, z0_, z1_, z2_, z3_, z4_]) rfl ⟨rfl, XB⟩
        · rw [if_neg hb]
          have g1 : decide (k ≤ b) = false := decide_eq_false hb
          simp only [mo_val]
          clear h3 h2 hb
          go_enter Try.func22, Try.ntmps22
          go_wp2_with fail
          refine cl_gen ?_
          intro v0 hv0
          have XB : Below w.heap.size w v0 := by
            rw [hv0]
            (repeat' (first | (with_reducible exact Below.refl _ _) | (with_reducible assumption) | (with_reducible refine below_drewN _ ?_) | (with_reducible refine Below.drew ?_) | (with_reducible refine Below.setCell ?_ (by simp) _) | (with_reducible refine Below.alloc ?_ (by simp; try omega) _)))
          have Xa : v0.heap[w.heap.size]? = some (.cells #[.int .u64 r, .int .u64 n, .int .u64 f, .int .u64 a, .int .u64 b] 24 (0, 0)) := by
            rw [hv0]
            (repeat' (first | (with_reducible exact heap_alloc_new _ _) | (with_reducible exact blk_new (by first | (simp; done) | omega)) | (with_reducible refine blk_drew ?_) | (with_reducible apply put5_0) | (with_reducible apply put5_1) | (with_reducible apply put5_2) | (with_reducible apply put5_3) | (with_reducible apply put5_4) | (with_reducible refine blk_else (by omega) ?_) | (with_reducible refine blk_old ?_)))
          have Xz : v0.heap[w.heap.size + 1]? = some (.cells #[.int .u64 0, .int .u64 0, .int .u64 0, .int .u64 0, .int .u64 0] 24 (0, 0)) := by
            rw [hv0]
            (repeat' (first | (with_reducible exact heap_alloc_new _ _) | (with_reducible exact blk_new (by first | (simp; done) | omega)) | (with_reducible refine blk_drew ?_) | (with_reducible apply put5_0) | (with_reducible apply put5_1) | (with_reducible apply put5_2) | (with_reducible apply put5_3) | (with_reducible apply put5_4) | (with_reducible refine blk_else (by omega) ?_) | (with_reducible refine blk_old ?_)))
          obtain ⟨Bz, hBz⟩ : ∃ x, x = w.heap.size + 1 := ⟨_, rfl⟩
          rw [← hBz] at Xz
          try rw [← hBz]
          have lez : w.heap.size ≤ Bz := by omega
          obtain ⟨Ba, hBa⟩ : ∃ x, x = w.heap.size := ⟨_, rfl⟩
          rw [← hBa] at Xa
          try rw [← hBa]
          have naz : ¬ Ba = Bz := by omega
          have nza : ¬ Bz = Ba := fun h => naz h.symm
          have lea : w.heap.size ≤ Ba := by omega
          clear hBa hBz
          clear hv0
          refine (MY.out _).mono ?_
          rintro e w1 ⟨rfl, bb⟩
          have Hz1 := Lib.hid (blk_call bb Xz)
          have Ha1 := Lib.hid (blk_call bb Xa)
          have HB1 := Lib.hid (bel_onto XB bb XB.size)
          clear Xz Xa XB bb
          obtain ⟨z0_, z1_, z2_, z3_, z4_, zf0_, zf1_, zf2_, zf3_, zf4_⟩ := at5 Hz1.out
          have zn_ := ne_blk Hz1.out
          have zm_ := Ne.symm (a := Bz) zn_
          have zl_ := lt_blk Hz1.out
          obtain ⟨a0_, a1_, a2_, a3_, a4_, af0_, af1_, af2_, af3_, af4_⟩ := at5 Ha1.out
          have an_ := ne_blk Ha1.out
          have am_ := Ne.symm (a := Ba) an_
          have al_ := lt_blk Ha1.out
          go_wp2
          (try simp only [Exit.inBlock, Exit.then])
          refine bp_gen ?_
          intro v1 hv1
          have Xz : v1.heap[Bz]? = some (.cells #[.int .u64 r, .int .u64 n, .int .u64 f, .int .u64 a, .int .u64 b] 24 (0, 0)) := by
            rw [hv1]
            (repeat' (first | (with_reducible exact Hz1.out) | (with_reducible exact heap_alloc_new _ _) | (with_reducible exact blk_new (by first | (simp; done) | omega)) | (with_reducible refine blk_drew ?_) | (with_reducible apply put5_0) | (with_reducible apply put5_1) | (with_reducible apply put5_2) | (with_reducible apply put5_3) | (with_reducible apply put5_4) | (with_reducible refine blk_else (by omega) ?_) | (with_reducible refine blk_old ?_)))
          have XB : Below w.heap.size w v1 := by
            rw [hv1]
            (repeat' (first | (with_reducible exact HB1.out) | (with_reducible exact Below.refl _ _) | (with_reducible refine below_drewN _ ?_) | (with_reducible refine Below.drew ?_) | (with_reducible refine Below.setCell ?_ (by first | (simp; done) | omega) _) | (with_reducible refine Below.alloc ?_ (by have := HB1.out.size; simp; omega) _)))
          clear z0_ z1_ z2_ z3_ z4_ zf0_ zf1_ zf2_ zf3_ zf4_ zn_ zm_ zl_ a0_ a1_ a2_ a3_ a4_ af0_ af1_ af2_ af3_ af4_ an_ am_ al_
          clear hv1 Hz1 Ha1 HB1
          obtain ⟨z0_, z1_, z2_, z3_, z4_, -⟩ := at5 Xz
          refine bodyPost_ret (v := .tuple #[.agg #[.int .u64 r, .int .u64 n, .int .u64 f, .int .u64 a, .int .u64 b], .int .i64 3]) (by simp [results, Try.results22, go_sem, z0_, z1_, z2_, z3_, z4_]) rfl ⟨rfl, XB⟩
      · have g2 : (c != 2) = true := by simp [h2]
        by_cases ha : k ≤ a
        · rw [if_pos ⟨h2, ha⟩]
          have g0 : decide (k ≤ a) = true := decide_eq_true ha
          simp only [mo_val]
          clear h3 h2
          go_enter Try.func22, Try.ntmps22
          go_wp2_with fail
          refine cl_gen ?_
          intro v0 hv0
          have XB : Below w.heap.size w v0 := by
            rw [hv0]
            (repeat' (first | (with_reducible exact Below.refl _ _) | (with_reducible assumption) | (with_reducible refine below_drewN _ ?_) | (with_reducible refine Below.drew ?_) | (with_reducible refine Below.setCell ?_ (by simp) _) | (with_reducible refine Below.alloc ?_ (by simp; try omega) _)))
          have Xa : v0.heap[w.heap.size]? = some (.cells #[.int .u64 r, .int .u64 n, .int .u64 f, .int .u64 a, .int .u64 b] 24 (0, 0)) := by
            rw [hv0]
            (repeat' (first | (with_reducible exact heap_alloc_new _ _) | (with_reducible exact blk_new (by first | (simp; done) | omega)) | (with_reducible refine blk_drew ?_) | (with_reducible apply put5_0) | (with_reducible apply put5_1) | (with_reducible apply put5_2) | (with_reducible apply put5_3) | (with_reducible apply put5_4) | (with_reducible refine blk_else (by omega) ?_) | (with_reducible refine blk_old ?_)))
          have Xz : v0.heap[w.heap.size + 1]? = some (.cells #[.int .u64 0, .int .u64 0, .int .u64 0, .int .u64 0, .int .u64 0] 24 (0, 0)) := by
            rw [hv0]
            (repeat' (first | (with_reducible exact heap_alloc_new _ _) | (with_reducible exact blk_new (by first | (simp; done) | omega)) | (with_reducible refine blk_drew ?_) | (with_reducible apply put5_0) | (with_reducible apply put5_1) | (with_reducible apply put5_2) | (with_reducible apply put5_3) | (with_reducible apply put5_4) | (with_reducible refine blk_else (by omega) ?_) | (with_reducible refine blk_old ?_)))
          obtain ⟨Bz, hBz⟩ : ∃ x, x = w.heap.size + 1 := ⟨_, rfl⟩
          rw [← hBz] at Xz
          try rw [← hBz]
          have lez : w.heap.size ≤ Bz := by omega
          obtain ⟨Ba, hBa⟩ : ∃ x, x = w.heap.size := ⟨_, rfl⟩
          rw [← hBa] at Xa
          try rw [← hBa]
          have naz : ¬ Ba = Bz := by omega
          have nza : ¬ Bz = Ba := fun h => naz h.symm
          have lea : w.heap.size ≤ Ba := by omega
          clear hBa hBz
          clear hv0
          refine (MY.out _).mono ?_
          rintro e w1 ⟨rfl, bb⟩
          have Hz1 := Lib.hid (blk_call bb Xz)
          have Ha1 := Lib.hid (blk_call bb Xa)
          have HB1 := Lib.hid (bel_onto XB bb XB.size)
          clear Xz Xa XB bb
          obtain ⟨z0_, z1_, z2_, z3_, z4_, zf0_, zf1_, zf2_, zf3_, zf4_⟩ := at5 Hz1.out
          have zn_ := ne_blk Hz1.out
          have zm_ := Ne.symm (a := Bz) zn_
          have zl_ := lt_blk Hz1.out
          obtain ⟨a0_, a1_, a2_, a3_, a4_, af0_, af1_, af2_, af3_, af4_⟩ := at5 Ha1.out
          have an_ := ne_blk Ha1.out
          have am_ := Ne.symm (a := Ba) an_
          have al_ := lt_blk Ha1.out
          go_wp2
          (try simp only [Exit.inBlock, Exit.then])
          refine bp_gen ?_
          intro v1 hv1
          have Xz : v1.heap[Bz]? = some (.cells #[.int .u64 r, .int .u64 n, .int .u64 f, .int .u64 (a - k), .int .u64 b] 24 (0, 0)) := by
            rw [hv1]
            (repeat' (first | (with_reducible exact Hz1.out) | (with_reducible exact heap_alloc_new _ _) | (with_reducible exact blk_new (by first | (simp; done) | omega)) | (with_reducible refine blk_drew ?_) | (with_reducible apply put5_0) | (with_reducible apply put5_1) | (with_reducible apply put5_2) | (with_reducible apply put5_3) | (with_reducible apply put5_4) | (with_reducible refine blk_else (by omega) ?_) | (with_reducible refine blk_old ?_)))
          have XB : Below w.heap.size w v1 := by
            rw [hv1]
            (repeat' (first | (with_reducible exact HB1.out) | (with_reducible exact Below.refl _ _) | (with_reducible refine below_drewN _ ?_) | (with_reducible refine Below.drew ?_) | (with_reducible refine Below.setCell ?_ (by first | (simp; done) | omega) _) | (with_reducible refine Below.alloc ?_ (by have := HB1.out.size; simp; omega) _)))
          clear z0_ z1_ z2_ z3_ z4_ zf0_ zf1_ zf2_ zf3_ zf4_ zn_ zm_ zl_ a0_ a1_ a2_ a3_ a4_ af0_ af1_ af2_ af3_ af4_ an_ am_ al_
          clear hv1 Hz1 Ha1 HB1
          obtain ⟨z0_, z1_, z2_, z3_, z4_, -⟩ := at5 Xz
          refine bodyPost_ret (v := .tuple #[.agg #[.int .u64 r, .int .u64 n, .int .u64 f, .int .u64 (a - k), .int .u64 b], .int .i64 1]) (by simp [results, Try.results22, go_sem, z0_, z1_, z2_, z3_, z4_]) rfl ⟨rfl, XB⟩
        · rw [if_neg (fun x => ha x.2)]
          have g0 : decide (k ≤ a) = false := decide_eq_false ha
          by_cases hb : k ≤ b
          · rw [if_pos hb]
            have g1 : decide (k ≤ b) = true := decide_eq_true hb
            simp only [mo_val]
            clear h3 h2 ha
            go_enter Try.func22, Try.ntmps22
            go_wp2_with fail
            refine cl_gen ?_
            intro v0 hv0
            have XB : Below w.heap.size w v0 := by
              rw [hv0]
              (repeat' (first | (with_reducible exact Below.refl _ _) | (with_reducible assumption) | (with_reducible refine below_drewN _ ?_) | (with_reducible refine Below.drew ?_) | (with_reducible refine Below.setCell ?_ (by simp) _) | (with_reducible refine Below.alloc ?_ (by simp; try omega) _)))
            have Xa : v0.heap[w.heap.size]? = some (.cells #[.int .u64 r, .int .u64 n, .int .u64 f, .int .u64 a, .int .u64 b] 24 (0, 0)) := by
              rw [hv0]
              (repeat' (first | (with_reducible exact heap_alloc_new _ _) | (with_reducible exact blk_new (by first | (simp; done) | omega)) | (with_reducible refine blk_drew ?_) | (with_reducible apply put5_0) | (with_reducible apply put5_1) | (with_reducible apply put5_2) | (with_reducible apply put5_3) | (with_reducible apply put5_4) | (with_reducible refine blk_else (by omega) ?_) | (with_reducible refine blk_old ?_)))
            have Xz : v0.heap[w.heap.size + 1]? = some (.cells #[.int .u64 0, .int .u64 0, .int .u64 0, .int .u64 0, .int .u64 0] 24 (0, 0)) := by
              rw [hv0]
              (repeat' (first | (with_reducible exact heap_alloc_new _ _) | (with_reducible exact blk_new (by first | (simp; done) | omega)) | (with_reducible refine blk_drew ?_) | (with_reducible apply put5_0) | (with_reducible apply put5_1) | (with_reducible apply put5_2) | (with_reducible apply put5_3) | (with_reducible apply put5_4) | (with_reducible refine blk_else (by omega) ?_) | (with_reducible refine blk_old ?_)))
            obtain ⟨Bz, hBz⟩ : ∃ x, x = w.heap.size + 1 := ⟨_, rfl⟩
            rw [← hBz] at Xz
            try rw [← hBz]
            have lez : w.heap.size ≤ Bz := by omega
            obtain ⟨Ba, hBa⟩ : ∃ x, x = w.heap.size := ⟨_, rfl⟩
            rw [← hBa] at Xa
            try rw [← hBa]
            have naz : ¬ Ba = Bz := by omega
            have nza : ¬ Bz = Ba := fun h => naz h.symm
            have lea : w.heap.size ≤ Ba := by omega
            clear hBa hBz
            clear hv0
            refine (MY.out _).mono ?_
            rintro e w1 ⟨rfl, bb⟩
            have Hz1 := Lib.hid (blk_call bb Xz)
            have Ha1 := Lib.hid (blk_call bb Xa)
            have HB1 := Lib.hid (bel_onto XB bb XB.size)
            clear Xz Xa XB bb
            obtain ⟨z0_, z1_, z2_, z3_, z4_, zf0_, zf1_, zf2_, zf3_, zf4_⟩ := at5 Hz1.out
            have zn_ := ne_blk Hz1.out
            have zm_ := Ne.symm (a := Bz) zn_
            have zl_ := lt_blk Hz1.out
            obtain ⟨a0_, a1_, a2_, a3_, a4_, af0_, af1_, af2_, af3_, af4_⟩ := at5 Ha1.out
            have an_ := ne_blk Ha1.out
            have am_ := Ne.symm (a := Ba) an_
            have al_ := lt_blk Ha1.out
            go_wp2
            (try simp only [Exit.inBlock, Exit.then])
            refine bp_gen ?_
            intro v1 hv1
            have Xz : v1.heap[Bz]? = some (.cells #[.int .u64 r, .int .u64 n, .int .u64 f, .int .u64 a, .int .u64 (b - k)] 24 (0, 0)) := by
              rw [hv1]
              (repeat' (first | (with_reducible exact Hz1.out) | (with_reducible exact heap_alloc_new _ _) | (with_reducible exact blk_new (by first | (simp; done) | omega)) | (with_reducible refine blk_drew ?_) | (with_reducible apply put5_0) | (with_reducible apply put5_1) | (with_reducible apply put5_2) | (with_reducible apply put5_3) | (with_reducible apply put5_4) | (with_reducible refine blk_else (by omega) ?_) | (with_reducible refine blk_old ?_)))
            have XB : Below w.heap.size w v1 := by
              rw [hv1]
              (repeat' (first | (with_reducible exact HB1.out) | (with_reducible exact Below.refl _ _) | (with_reducible refine below_drewN _ ?_) | (with_reducible refine Below.drew ?_) | (with_reducible refine Below.setCell ?_ (by first | (simp; done) | omega) _) | (with_reducible refine Below.alloc ?_ (by have := HB1.out.size; simp; omega) _)))
            clear z0_ z1_ z2_ z3_ z4_ zf0_ zf1_ zf2_ zf3_ zf4_ zn_ zm_ zl_ a0_ a1_ a2_ a3_ a4_ af0_ af1_ af2_ af3_ af4_ an_ am_ al_
            clear hv1 Hz1 Ha1 HB1
            obtain ⟨z0_, z1_, z2_, z3_, z4_, -⟩ := at5 Xz
            refine bodyPost_ret (v := .tuple #[.agg #[.int .u64 r, .int .u64 n, .int .u64 f, .int .u64 a, .int .u64 (b - k)], .int .i64 2]) (by simp [results, Try.results22, go_sem, z0_, z1_, z2_, z3_, z4_]) rfl ⟨rfl, XB⟩
          · rw [if_neg hb]
            have g1 : decide (k ≤ b) = false := decide_eq_false hb
            simp only [mo_val]
            clear h3 h2 ha hb
            go_enter Try.func22, Try.ntmps22
            go_wp2_with fail
            refine cl_gen ?_
            intro v0 hv0
            have XB : Below w.heap.size w v0 := by
              rw [hv0]
              (repeat' (first | (with_reducible exact Below.refl _ _) | (with_reducible assumption) | (with_reducible refine below_drewN _ ?_) | (with_reducible refine Below.drew ?_) | (with_reducible refine Below.setCell ?_ (by simp) _) | (with_reducible refine Below.alloc ?_ (by simp; try omega) _)))
            have Xa : v0.heap[w.heap.size]? = some (.cells #[.int .u64 r, .int .u64 n, .int .u64 f, .int .u64 a, .int .u64 b] 24 (0, 0)) := by
              rw [hv0]
              (repeat' (first | (with_reducible exact heap_alloc_new _ _) | (with_reducible exact blk_new (by first | (simp; done) | omega)) | (with_reducible refine blk_drew ?_) | (with_reducible apply put5_0) | (with_reducible apply put5_1) | (with_reducible apply put5_2) | (with_reducible apply put5_3) | (with_reducible apply put5_4) | (with_reducible refine blk_else (by omega) ?_) | (with_reducible refine blk_old ?_)))
            have Xz : v0.heap[w.heap.size + 1]? = some (.cells #[.int .u64 0, .int .u64 0, .int .u64 0, .int .u64 0, .int .u64 0] 24 (0, 0)) := by
              rw [hv0]
              (repeat' (first | (with_reducible exact heap_alloc_new _ _) | (with_reducible exact blk_new (by first | (simp; done) | omega)) | (with_reducible refine blk_drew ?_) | (with_reducible apply put5_0) | (with_reducible apply put5_1) | (with_reducible apply put5_2) | (with_reducible apply put5_3) | (with_reducible apply put5_4) | (with_reducible refine blk_else (by omega) ?_) | (with_reducible refine blk_old ?_)))
            obtain ⟨Bz, hBz⟩ : ∃ x, x = w.heap.size + 1 := ⟨_, rfl⟩
            rw [← hBz] at Xz
            try rw [← hBz]
            have lez : w.heap.size ≤ Bz := by omega
            obtain ⟨Ba, hBa⟩ : ∃ x, x = w.heap.size := ⟨_, rfl⟩
            rw [← hBa] at Xa
            try rw [← hBa]
            have naz : ¬ Ba = Bz := by omega
            have nza : ¬ Bz = Ba := fun h => naz h.symm
            have lea : w.heap.size ≤ Ba := by omega
            clear hBa hBz
            clear hv0
            refine (MY.out _).mono ?_
            rintro e w1 ⟨rfl, bb⟩
            have Hz1 := Lib.hid (blk_call bb Xz)
            have Ha1 := Lib.hid (blk_call bb Xa)
            have HB1 := Lib.hid (bel_onto XB bb XB.size)
            clear Xz Xa XB bb
            obtain ⟨z0_, z1_, z2_, z3_, z4_, zf0_, zf1_, zf2_, zf3_, zf4_⟩ := at5 Hz1.out
            have zn_ := ne_blk Hz1.out
            have zm_ := Ne.symm (a := Bz) zn_
            have zl_ := lt_blk Hz1.out
            obtain ⟨a0_, a1_, a2_, a3_, a4_, af0_, af1_, af2_, af3_, af4_⟩ := at5 Ha1.out
            have an_ := ne_blk Ha1.out
            have am_ := Ne.symm (a := Ba) an_
            have al_ := lt_blk Ha1.out
            go_wp2
            (try simp only [Exit.inBlock, Exit.then])
            refine bp_gen ?_
            intro v1 hv1
            have Xz : v1.heap[Bz]? = some (.cells #[.int .u64 r, .int .u64 n, .int .u64 f, .int .u64 a, .int .u64 b] 24 (0, 0)) := by
              rw [hv1]
              (repeat' (first | (with_reducible exact Hz1.out) | (with_reducible exact heap_alloc_new _ _) | (with_reducible exact blk_new (by first | (simp; done) | omega)) | (with_reducible refine blk_drew ?_) | (with_reducible apply put5_0) | (with_reducible apply put5_1) | (with_reducible apply put5_2) | (with_reducible apply put5_3) | (with_reducible apply put5_4) | (with_reducible refine blk_else (by omega) ?_) | (with_reducible refine blk_old ?_)))
            have XB : Below w.heap.size w v1 := by
              rw [hv1]
              (repeat' (first | (with_reducible exact HB1.out) | (with_reducible exact Below.refl _ _) | (with_reducible refine below_drewN _ ?_) | (with_reducible refine Below.drew ?_) | (with_reducible refine Below.setCell ?_ (by first | (simp; done) | omega) _) | (with_reducible refine Below.alloc ?_ (by have := HB1.out.size; simp; omega) _)))
            clear z0_ z1_ z2_ z3_ z4_ zf0_ zf1_ zf2_ zf3_ zf4_ zn_ zm_ zl_ a0_ a1_ a2_ a3_ a4_ af0_ af1_ af2_ af3_ af4_ an_ am_ al_
            clear hv1 Hz1 Ha1 HB1
            obtain ⟨z0_, z1_, z2_, z3_, z4_, -⟩ := at5 Xz
            refine bodyPost_ret (v := .tuple #[.agg #[.int .u64 r, .int .u64 n, .int .u64 f, .int .u64 a, .int .u64 b], .int .i64 3]) (by simp [results, Try.results22, go_sem, z0_, z1_, z2_, z3_, z4_]) rfl ⟨rfl, XB⟩
  · rw [if_neg hok]
    have hne : mor r n f a b ≠ 0 := fun x => hok (mor_ok.1 x)
    have gne : (mor r n f a b != 0) = true := by simp [hne]
    generalize mor r n f a b = er at *
    simp only [mo_val]
    clear hok
    go_enter Try.func22, Try.ntmps22
    go_wp2_with fail
    refine cl_gen ?_
    intro v0 hv0
    have XB : Below w.heap.size w v0 := by
      rw [hv0]
      (repeat' (first | (with_reducible exact Below.refl _ _) | (with_reducible assumption) | (with_reducible refine below_drewN _ ?_) | (with_reducible refine Below.drew ?_) | (with_reducible refine Below.setCell ?_ (by simp) _) | (with_reducible refine Below.alloc ?_ (by simp; try omega) _)))
    have Xa : v0.heap[w.heap.size]? = some (.cells #[.int .u64 r, .int .u64 n, .int .u64 f, .int .u64 a, .int .u64 b] 24 (0, 0)) := by
      rw [hv0]
      (repeat' (first | (with_reducible exact heap_alloc_new _ _) | (with_reducible exact blk_new (by first | (simp; done) | omega)) | (with_reducible refine blk_drew ?_) | (with_reducible apply put5_0) | (with_reducible apply put5_1) | (with_reducible apply put5_2) | (with_reducible apply put5_3) | (with_reducible apply put5_4) | (with_reducible refine blk_else (by omega) ?_) | (with_reducible refine blk_old ?_)))
    have Xz : v0.heap[w.heap.size + 1]? = some (.cells #[.int .u64 0, .int .u64 0, .int .u64 0, .int .u64 0, .int .u64 0] 24 (0, 0)) := by
      rw [hv0]
      (repeat' (first | (with_reducible exact heap_alloc_new _ _) | (with_reducible exact blk_new (by first | (simp; done) | omega)) | (with_reducible refine blk_drew ?_) | (with_reducible apply put5_0) | (with_reducible apply put5_1) | (with_reducible apply put5_2) | (with_reducible apply put5_3) | (with_reducible apply put5_4) | (with_reducible refine blk_else (by omega) ?_) | (with_reducible refine blk_old ?_)))
    obtain ⟨Bz, hBz⟩ : ∃ x, x = w.heap.size + 1 := ⟨_, rfl⟩
    rw [← hBz] at Xz
    try rw [← hBz]
    have lez : w.heap.size ≤ Bz := by omega
    obtain ⟨Ba, hBa⟩ : ∃ x, x = w.heap.size := ⟨_, rfl⟩
    rw [← hBa] at Xa
    try rw [← hBa]
    have naz : ¬ Ba = Bz := by omega
    have nza : ¬ Bz = Ba := fun h => naz h.symm
    have lea : w.heap.size ≤ Ba := by omega
    clear hBa hBz
    clear hv0
    refine (MY.out _).mono ?_
    rintro e w1 ⟨rfl, bb⟩
    have Hz1 := Lib.hid (blk_call bb Xz)
    have Ha1 := Lib.hid (blk_call bb Xa)
    have HB1 := Lib.hid (bel_onto XB bb XB.size)
    clear Xz Xa XB bb
    obtain ⟨z0_, z1_, z2_, z3_, z4_, zf0_, zf1_, zf2_, zf3_, zf4_⟩ := at5 Hz1.out
    have zn_ := ne_blk Hz1.out
    have zm_ := Ne.symm (a := Bz) zn_
    have zl_ := lt_blk Hz1.out
    obtain ⟨a0_, a1_, a2_, a3_, a4_, af0_, af1_, af2_, af3_, af4_⟩ := at5 Ha1.out
    have an_ := ne_blk Ha1.out
    have am_ := Ne.symm (a := Ba) an_
    have al_ := lt_blk Ha1.out
    go_wp2
    (try simp only [Exit.inBlock, Exit.then])
    refine bp_gen ?_
    intro v1 hv1
    have Xz : v1.heap[Bz]? = some (.cells #[.int .u64 0, .int .u64 0, .int .u64 0, .int .u64 0, .int .u64 0] 24 (0, 0)) := by
      rw [hv1]
      (repeat' (first | (with_reducible exact Hz1.out) | (with_reducible exact heap_alloc_new _ _) | (with_reducible exact blk_new (by first | (simp; done) | omega)) | (with_reducible refine blk_drew ?_) | (with_reducible apply put5_0) | (with_reducible apply put5_1) | (with_reducible apply put5_2) | (with_reducible apply put5_3) | (with_reducible apply put5_4) | (with_reducible refine blk_else (by omega) ?_) | (with_reducible refine blk_old ?_)))
    have XB : Below w.heap.size w v1 := by
      rw [hv1]
      (repeat' (first | (with_reducible exact HB1.out) | (with_reducible exact Below.refl _ _) | (with_reducible refine below_drewN _ ?_) | (with_reducible refine Below.drew ?_) | (with_reducible refine Below.setCell ?_ (by first | (simp; done) | omega) _) | (with_reducible refine Below.alloc ?_ (by have := HB1.out.size; simp; omega) _)))
    clear z0_ z1_ z2_ z3_ z4_ zf0_ zf1_ zf2_ zf3_ zf4_ zn_ zm_ zl_ a0_ a1_ a2_ a3_ a4_ af0_ af1_ af2_ af3_ af4_ an_ am_ al_
    clear hv1 Hz1 Ha1 HB1
    obtain ⟨z0_, z1_, z2_, z3_, z4_, -⟩ := at5 Xz
    refine bodyPost_ret (v := .tuple #[.agg #[.int .u64 0, .int .u64 0, .int .u64 0, .int .u64 0, .int .u64 0], .int .i64 3]) (by simp [results, Try.results22, go_sem, z0_, z1_, z2_, z3_, z4_]) rfl ⟨rfl, XB⟩
set_option maxRecDepth 100000 in
set_option maxHeartbeats 4000000 in
theorem mt_rcol (m : MT) (hm : m.wd) (k : Int) (k0 : 0 ≤ k) (k1 : k ≤ 18446744073709551615) (c : Int) (w : World) :
    Calls Try.prog 23 #[m.val, .int .u64 k, .int .i64 c] w fun e w' => e = .returned (.tuple #[(m.col k c).1.val, .int .i64 (m.col k c).2]) ∧ Below w.heap.size w w' := by
  obtain ⟨⟨s0, s1⟩, ⟨q0, q1⟩, ⟨n0, n1⟩, ⟨f0, f1⟩, ⟨a0, a1⟩, b0, b1⟩ := hm
  obtain ⟨s, q, n, f, a, b⟩ := m
  dsimp only at s0 s1 q0 q1 n0 n1 f0 f1 a0 a1 b0 b1
  have MY := Lib.hid (fun (W : World) => ((mt_rmay s q n f a b W).mono (by rintro e w' ⟨rfl, rfl⟩; exact ⟨rfl, (Below.refl _ W).alloc (Nat.le_refl _) _⟩) : Calls Try.prog 15 #[.agg #[.int .u64 s, .int .u64 q, .int .u64 n, .int .u64 f, .int .u64 a, .int .u64 b]] W fun e w' => e = .returned (.int .i64 (mtr s q n f a b)) ∧ Below W.heap.size W w'))
  unfold MT.col
  by_cases hok : MT.ok ⟨s, q, n, f, a, b⟩
  · rw [if_pos hok]
    rw [mtr_ok.2 hok] at MY
    clear hok
    dsimp only
    by_cases h3 : c = 3
    · rw [if_pos (Or.inl h3)]
      have g3 : (c == 3) = true := by simp [h3]
      simp only [mt_val]
      clear h3
      go_enter Try.func23, Try.ntmps23
      go_wp2_with fail
      refine cl_gen ?_
      intro v0 hv0
      have XB : Below w.heap.size w v0 := by
        rw [hv0]
        (repeat' (first | (with_reducible exact Below.refl _ _) | (with_reducible assumption) | (with_reducible refine below_drewN _ ?_) | (with_reducible refine Below.drew ?_) | (with_reducible refine Below.setCell ?_ (by simp) _) | (with_reducible refine Below.alloc ?_ (by simp; try omega) _)))
      have Xa : v0.heap[w.heap.size]? = some (.cells #[.int .u64 s, .int .u64 q, .int .u64 n, .int .u64 f, .int .u64 a, .int .u64 b] 26 (0, 0)) := by
        rw [hv0]
        (repeat' (first | (with_reducible exact heap_alloc_new _ _) | (with_reducible exact blk_new (by first | (simp; done) | omega)) | (with_reducible refine blk_drew ?_) | (with_reducible apply put6_0) | (with_reducible apply put6_1) | (with_reducible apply put6_2) | (with_reducible apply put6_3) | (with_reducible apply put6_4) | (with_reducible apply put6_5) | (with_reducible refine blk_else (by omega) ?_) | (with_reducible refine blk_old ?_)))
      have Xz : v0.heap[w.heap.size + 1]? = some (.cells #[.int .u64 0, .int .u64 0, .int .u64 0, .int .u64 0, .int .u64 0, .int .u64 0] 26 (0, 0)) := by
        rw [hv0]
        (repeat' (first | (with_reducible exact heap_alloc_new _ _) | (with_reducible exact blk_new (by first | (simp; done) | omega)) | (with_reducible refine blk_drew ?_) | (with_reducible apply put6_0) | (with_reducible apply put6_1) | (with_reducible apply put6_2) | (with_reducible apply put6_3) | (with_reducible apply put6_4) | (with_reducible apply put6_5) | (with_reducible refine blk_else (by omega) ?_) | (with_reducible refine blk_old ?_)))
      obtain ⟨Bz, hBz⟩ : ∃ x, x = w.heap.size + 1 := ⟨_, rfl⟩
      rw [← hBz] at Xz
      try rw [← hBz]
      have lez : w.heap.size ≤ Bz := by omega
      obtain ⟨Ba, hBa⟩ : ∃ x, x = w.heap.size := ⟨_, rfl⟩
      rw [← hBa] at Xa
      try rw [← hBa]
      have naz : ¬ Ba = Bz := by omega
      have nza : ¬ Bz = Ba := fun h => naz h.symm
      have lea : w.heap.size ≤ Ba := by omega
      clear hBa hBz
      clear hv0
      refine (MY.out _).mono ?_
      rintro e w1 ⟨rfl, bb⟩
      have Hz1 := Lib.hid (blk_call bb Xz)
      have Ha1 := Lib.hid (blk_call bb Xa)
      have HB1 := Lib.hid (bel_onto XB bb XB.size)
      clear Xz Xa XB bb
      obtain ⟨z0_, z1_, z2_, z3_, z4_, z5_, zf0_, zf1_, zf2_, zf3_, zf4_, zf5_⟩ := at6 Hz1.out
      have zn_ := ne_blk Hz1.out
      have zm_ := Ne.symm (a := Bz) zn_
      have zl_ := lt_blk Hz1.out
      obtain ⟨a0_, a1_, a2_, a3_, a4_, a5_, af0_, af1_, af2_, af3_, af4_, af5_⟩ := at6 Ha1.out
      have an_ := ne_blk Ha1.out
      have am_ := Ne.symm (a := Ba) an_
      have al_ := lt_blk Ha1.out
      go_wp2
      (try simp only [Exit.inBlock, Exit.then])
      refine bp_gen ?_
      intro v1 hv1
      have Xz : v1.heap[Bz]? = some (.cells #[.int .u64 s, .int .u64 q, .int .u64 n, .int .u64 f, .int .u64 a, .int .u64 b] 26 (0, 0)) := by
        rw [hv1]
        (repeat' (first | (with_reducible exact Hz1.out) | (with_reducible exact heap_alloc_new _ _) | (with_reducible exact blk_new (by first | (simp; done) | omega)) | (with_reducible refine blk_drew ?_) | (with_reducible apply put6_0) | (with_reducible apply put6_1) | (with_reducible apply put6_2) | (with_reducible apply put6_3) | (with_reducible apply put6_4) | (with_reducible apply put6_5) | (with_reducible refine blk_else (by omega) ?_) | (with_reducible refine blk_old ?_)))
      have XB : Below w.heap.size w v1 := by
        rw [hv1]
        (repeat' (first | (with_reducible exact HB1.out) | (with_reducible exact Below.refl _ _) | (with_reducible refine below_drewN _ ?_) | (with_reducible refine Below.drew ?_) | (with_reducible refine Below.setCell ?_ (by first | (simp; done) | omega) _) | (with_reducible refine Below.alloc ?_ (by have := HB1.out.size; simp; omega) _)))
      clear z0_ z1_ z2_ z3_ z4_ z5_ zf0_ zf1_ zf2_ zf3_ zf4_ zf5_ zn_ zm_ zl_ a0_ a1_ a2_ a3_ a4_ a5_ af0_ af1_ af2_ af3_ af4_ af5_ an_ am_ al_
      clear hv1 Hz1 Ha1 HB1
      obtain ⟨z0_, z1_, z2_, z3_, z4_, z5_, -⟩ := at6 Xz
      refine bodyPost_ret (v := .tuple #[.agg #[.int .u64 s, .int .u64 q, .int .u64 n, .int .u64 f, .int .u64 a, .int .u64 b], .int .i64 3]) (by simp [results, Try.results23, go_sem, z0_, z1_, z2_, z3_, z4_, z5_]) rfl ⟨rfl, XB⟩
    · have g3 : (c == 3) = false := by simp [h3]
      by_cases hb : b < k
      · rw [if_pos (Or.inr hb)]
        have g1 : decide (b < k) = true := decide_eq_true hb
        simp only [mt_val]
        clear h3
        go_enter Try.func23, Try.ntmps23
        go_wp2_with fail
        refine cl_gen ?_
        intro v0 hv0
        have XB : Below w.heap.size w v0 := by
          rw [hv0]
          (repeat' (first | (with_reducible exact Below.refl _ _) | (with_reducible assumption) | (with_reducible refine below_drewN _ ?_) | (with_reducible refine Below.drew ?_) | (with_reducible refine Below.setCell ?_ (by simp) _) | (with_reducible refine Below.alloc ?_ (by simp; try omega) _)))
        have Xa : v0.heap[w.heap.size]? = some (.cells #[.int .u64 s, .int .u64 q, .int .u64 n, .int .u64 f, .int .u64 a, .int .u64 b] 26 (0, 0)) := by
          rw [hv0]
          (repeat' (first | (with_reducible exact heap_alloc_new _ _) | (with_reducible exact blk_new (by first | (simp; done) | omega)) | (with_reducible refine blk_drew ?_) | (with_reducible apply put6_0) | (with_reducible apply put6_1) | (with_reducible apply put6_2) | (with_reducible apply put6_3) | (with_reducible apply put6_4) | (with_reducible apply put6_5) | (with_reducible refine blk_else (by omega) ?_) | (with_reducible refine blk_old ?_)))
        have Xz : v0.heap[w.heap.size + 1]? = some (.cells #[.int .u64 0, .int .u64 0, .int .u64 0, .int .u64 0, .int .u64 0, .int .u64 0] 26 (0, 0)) := by
          rw [hv0]
          (repeat' (first | (with_reducible exact heap_alloc_new _ _) | (with_reducible exact blk_new (by first | (simp; done) | omega)) | (with_reducible refine blk_drew ?_) | (with_reducible apply put6_0) | (with_reducible apply put6_1) | (with_reducible apply put6_2) | (with_reducible apply put6_3) | (with_reducible apply put6_4) | (with_reducible apply put6_5) | (with_reducible refine blk_else (by omega) ?_) | (with_reducible refine blk_old ?_)))
        obtain ⟨Bz, hBz⟩ : ∃ x, x = w.heap.size + 1 := ⟨_, rfl⟩
        rw [← hBz] at Xz
        try rw [← hBz]
        have lez : w.heap.size ≤ Bz := by omega
        obtain ⟨Ba, hBa⟩ : ∃ x, x = w.heap.size := ⟨_, rfl⟩
        rw [← hBa] at Xa
        try rw [← hBa]
        have naz : ¬ Ba = Bz := by omega
        have nza : ¬ Bz = Ba := fun h => naz h.symm
        have lea : w.heap.size ≤ Ba := by omega
        clear hBa hBz
        clear hv0
        refine (MY.out _).mono ?_
        rintro e w1 ⟨rfl, bb⟩
        have Hz1 := Lib.hid (blk_call bb Xz)
        have Ha1 := Lib.hid (blk_call bb Xa)
        have HB1 := Lib.hid (bel_onto XB bb XB.size)
        clear Xz Xa XB bb
        obtain ⟨z0_, z1_, z2_, z3_, z4_, z5_, zf0_, zf1_, zf2_, zf3_, zf4_, zf5_⟩ := at6 Hz1.out
        have zn_ := ne_blk Hz1.out
        have zm_ := Ne.symm (a := Bz) zn_
        have zl_ := lt_blk Hz1.out
        obtain ⟨a0_, a1_, a2_, a3_, a4_, a5_, af0_, af1_, af2_, af3_, af4_, af5_⟩ := at6 Ha1.out
        have an_ := ne_blk Ha1.out
        have am_ := Ne.symm (a := Ba) an_
        have al_ := lt_blk Ha1.out
        go_wp2
        (try simp only [Exit.inBlock, Exit.then])
        refine bp_gen ?_
        intro v1 hv1
        have Xz : v1.heap[Bz]? = some (.cells #[.int .u64 s, .int .u64 q, .int .u64 n, .int .u64 f, .int .u64 a, .int .u64 b] 26 (0, 0)) := by
          rw [hv1]
          (repeat' (first | (with_reducible exact Hz1.out) | (with_reducible exact heap_alloc_new _ _) | (with_reducible exact blk_new (by first | (simp; done) | omega)) | (with_reducible refine blk_drew ?_) | (with_reducible apply put6_0) | (with_reducible apply put6_1) | (with_reducible apply put6_2) | (with_reducible apply put6_3) | (with_reducible apply put6_4) | (with_reducible apply put6_5) | (with_reducible refine blk_else (by omega) ?_) | (with_reducible refine blk_old ?_)))
        have XB : Below w.heap.size w v1 := by
          rw [hv1]
          (repeat' (first | (with_reducible exact HB1.out) | (with_reducible exact Below.refl _ _) | (with_reducible refine below_drewN _ ?_) | (with_reducible refine Below.drew ?_) | (with_reducible refine Below.setCell ?_ (by first | (simp; done) | omega) _) | (with_reducible refine Below.alloc ?_ (by have := HB1.out.size; simp; omega) _)))
        clear z0_ z1_ z2_ z3_ z4_ z5_ zf0_ zf1_ zf2_ zf3_ zf4_ zf5_ zn_ zm_ zl_ a0_ a1_ a2_ a3_ a4_ a5_ af0_ af1_ af2_ af3_ af4_ af5_ an_ am_ al_
        clear hv1 Hz1 Ha1 HB1
        obtain ⟨z0_, z1_, z2_, z3_, z4_, z5_, -⟩ := at6 Xz
        refine bodyPost_ret (v := .tuple #[.agg #[.int .u64 s, .int .u64 q, .int .u64 n, .int .u64 f, .int .u64 a, .int .u64 b], .int .i64 3]) (by simp [results, Try.results23, go_sem, z0_, z1_, z2_, z3_, z4_, z5_]) rfl ⟨rfl, XB⟩
      · rw [if_neg (fun x => x.elim h3 hb)]
        have g1 : decide (b < k) = false := decide_eq_false hb
        have gb : k ≤ b := by omega
        by_cases h2 : c = 2
        · rw [if_pos (Or.inl h2)]
          have g2 : (c == 2) = true := by simp [h2]
          simp only [mt_val]
          clear h3 h2 hb
          go_enter Try.func23, Try.ntmps23
          go_wp2_with fail
          refine cl_gen ?_
          intro v0 hv0
          have XB : Below w.heap.size w v0 := by
            rw [hv0]
            (repeat' (first | (with_reducible exact Below.refl _ _) | (with_reducible assumption) | (with_reducible refine below_drewN _ ?_) | (with_reducible refine Below.drew ?_) | (with_reducible refine Below.setCell ?_ (by simp) _) | (with_reducible refine Below.alloc ?_ (by simp; try omega) _)))
          have Xa : v0.heap[w.heap.size]? = some (.cells #[.int .u64 s, .int .u64 q, .int .u64 n, .int .u64 f, .int .u64 a, .int .u64 b] 26 (0, 0)) := by
            rw [hv0]
            (repeat' (first | (with_reducible exact heap_alloc_new _ _) | (with_reducible exact blk_new (by first | (simp; done) | omega)) | (with_reducible refine blk_drew ?_) | (with_reducible apply put6_0) | (with_reducible apply put6_1) | (with_reducible apply put6_2) | (with_reducible apply put6_3) | (with_reducible apply put6_4) | (with_reducible apply put6_5) | (with_reducible refine blk_else (by omega) ?_) | (with_reducible refine blk_old ?_)))
          have Xz : v0.heap[w.heap.size + 1]? = some (.cells #[.int .u64 0, .int .u64 0, .int .u64 0, .int .u64 0, .int .u64 0, .int .u64 0] 26 (0, 0)) := by
            rw [hv0]
            (repeat' (first | (with_reducible exact heap_alloc_new _ _) | (with_reducible exact blk_new (by first | (simp; done) | omega)) | (with_reducible refine blk_drew ?_) | (with_reducible apply put6_0) | (with_reducible apply put6_1) | (with_reducible apply put6_2) | (with_reducible apply put6_3) | (with_reducible apply put6_4) | (with_reducible apply put6_5) | (with_reducible refine blk_else (by omega) ?_) | (with_reducible refine blk_old ?_)))
          obtain ⟨Bz, hBz⟩ : ∃ x, x = w.heap.size + 1 := ⟨_, rfl⟩
          rw [← hBz] at Xz
          try rw [← hBz]
          have lez : w.heap.size ≤ Bz := by omega
          obtain ⟨Ba, hBa⟩ : ∃ x, x = w.heap.size := ⟨_, rfl⟩
          rw [← hBa] at Xa
          try rw [← hBa]
          have naz : ¬ Ba = Bz := by omega
          have nza : ¬ Bz = Ba := fun h => naz h.symm
          have lea : w.heap.size ≤ Ba := by omega
          clear hBa hBz
          clear hv0
          refine (MY.out _).mono ?_
          rintro e w1 ⟨rfl, bb⟩
          have Hz1 := Lib.hid (blk_call bb Xz)
          have Ha1 := Lib.hid (blk_call bb Xa)
          have HB1 := Lib.hid (bel_onto XB bb XB.size)
          clear Xz Xa XB bb
          obtain ⟨z0_, z1_, z2_, z3_, z4_, z5_, zf0_, zf1_, zf2_, zf3_, zf4_, zf5_⟩ := at6 Hz1.out
          have zn_ := ne_blk Hz1.out
          have zm_ := Ne.symm (a := Bz) zn_
          have zl_ := lt_blk Hz1.out
          obtain ⟨a0_, a1_, a2_, a3_, a4_, a5_, af0_, af1_, af2_, af3_, af4_, af5_⟩ := at6 Ha1.out
          have an_ := ne_blk Ha1.out
          have am_ := Ne.symm (a := Ba) an_
          have al_ := lt_blk Ha1.out
          go_wp2
          (try simp only [Exit.inBlock, Exit.then])
          refine bp_gen ?_
          intro v1 hv1
          have Xz : v1.heap[Bz]? = some (.cells #[.int .u64 s, .int .u64 q, .int .u64 n, .int .u64 f, .int .u64 a, .int .u64 (b - k)] 26 (0, 0)) := by
            rw [hv1]
            (repeat' (first | (with_reducible exact Hz1.out) | (with_reducible exact heap_alloc_new _ _) | (with_reducible exact blk_new (by first | (simp; done) | omega)) | (with_reducible refine blk_drew ?_) | (with_reducible apply put6_0) | (with_reducible apply put6_1) | (with_reducible apply put6_2) | (with_reducible apply put6_3) | (with_reducible apply put6_4) | (with_reducible apply put6_5) | (with_reducible refine blk_else (by omega) ?_) | (with_reducible refine blk_old ?_)))
          have XB : Below w.heap.size w v1 := by
            rw [hv1]
            (repeat' (first | (with_reducible exact HB1.out) | (with_reducible exact Below.refl _ _) | (with_reducible refine below_drewN _ ?_) | (with_reducible refine Below.drew ?_) | (with_reducible refine Below.setCell ?_ (by first | (simp; done) | omega) _) | (with_reducible refine Below.alloc ?_ (by have := HB1.out.size; simp; omega) _)))
          clear z0_ z1_ z2_ z3_ z4_ z5_ zf0_ zf1_ zf2_ zf3_ zf4_ zf5_ zn_ zm_ zl_ a0_ a1_ a2_ a3_ a4_ a5_ af0_ af1_ af2_ af3_ af4_ af5_ an_ am_ al_
          clear hv1 Hz1 Ha1 HB1
          obtain ⟨z0_, z1_, z2_, z3_, z4_, z5_, -⟩ := at6 Xz
          refine bodyPost_ret (v := .tuple #[.agg #[.int .u64 s, .int .u64 q, .int .u64 n, .int .u64 f, .int .u64 a, .int .u64 (b - k)], .int .i64 2]) (by simp [results, Try.results23, go_sem, z0_, z1_, z2_, z3_, z4_, z5_]) rfl ⟨rfl, XB⟩
        · have g2 : (c == 2) = false := by simp [h2]
          by_cases ha : a < k
          · rw [if_pos (Or.inr ha)]
            have g0 : decide (a < k) = true := decide_eq_true ha
            simp only [mt_val]
            clear h3 h2 hb
            go_enter Try.func23, Try.ntmps23
            go_wp2_with fail
            refine cl_gen ?_
            intro v0 hv0
            have XB : Below w.heap.size w v0 := by
              rw [hv0]
              (repeat' (first | (with_reducible exact Below.refl _ _) | (with_reducible assumption) | (with_reducible refine below_drewN _ ?_) | (with_reducible refine Below.drew ?_) | (with_reducible refine Below.setCell ?_ (by simp) _) | (with_reducible refine Below.alloc ?_ (by simp; try omega) _)))
            have Xa : v0.heap[w.heap.size]? = some (.cells #[.int .u64 s, .int .u64 q, .int .u64 n, .int .u64 f, .int .u64 a, .int .u64 b] 26 (0, 0)) := by
              rw [hv0]
              (repeat' (first | (with_reducible exact heap_alloc_new _ _) | (with_reducible exact blk_new (by first | (simp; done) | omega)) | (with_reducible refine blk_drew ?_) | (with_reducible apply put6_0) | (with_reducible apply put6_1) | (with_reducible apply put6_2) | (with_reducible apply put6_3) | (with_reducible apply put6_4) | (with_reducible apply put6_5) | (with_reducible refine blk_else (by omega) ?_) | (with_reducible refine blk_old ?_)))
            have Xz : v0.heap[w.heap.size + 1]? = some (.cells #[.int .u64 0, .int .u64 0, .int .u64 0, .int .u64 0, .int .u64 0, .int .u64 0] 26 (0, 0)) := by
              rw [hv0]
              (repeat' (first | (with_reducible exact heap_alloc_new _ _) | (with_reducible exact blk_new (by first | (simp; done) | omega)) | (with_reducible refine blk_drew ?_) | (with_reducible apply put6_0) | (with_reducible apply put6_1) | (with_reducible apply put6_2) | (with_reducible apply put6_3) | (with_reducible apply put6_4) | (with_reducible apply put6_5) | (with_reducible refine blk_else (by omega) ?_) | (with_reducible refine blk_old ?_)))
            obtain ⟨Bz, hBz⟩ : ∃ x, x = w.heap.size + 1 := ⟨_, rfl⟩
            rw [← hBz] at Xz
            try rw [← hBz]
            have lez : w.heap.size ≤ Bz := by omega
            obtain ⟨Ba, hBa⟩ : ∃ x, x = w.heap.size := ⟨_, rfl⟩
            rw [← hBa] at Xa
            try rw [← hBa]
            have naz : ¬ Ba = Bz := by omega
            have nza : ¬ Bz = Ba := fun h => naz h.symm
            have lea : w.heap.size ≤ Ba := by omega
            clear hBa hBz
            clear hv0
            refine (MY.out _).mono ?_
            rintro e w1 ⟨rfl, bb⟩
            have Hz1 := Lib.hid (blk_call bb Xz)
            have Ha1 := Lib.hid (blk_call bb Xa)
            have HB1 := Lib.hid (bel_onto XB bb XB.size)
            clear Xz Xa XB bb
            obtain ⟨z0_, z1_, z2_, z3_, z4_, z5_, zf0_, zf1_, zf2_, zf3_, zf4_, zf5_⟩ := at6 Hz1.out
            have zn_ := ne_blk Hz1.out
            have zm_ := Ne.symm (a := Bz) zn_
            have zl_ := lt_blk Hz1.out
            obtain ⟨a0_, a1_, a2_, a3_, a4_, a5_, af0_, af1_, af2_, af3_, af4_, af5_⟩ := at6 Ha1.out
            have an_ := ne_blk Ha1.out
            have am_ := Ne.symm (a := Ba) an_
            have al_ := lt_blk Ha1.out
            go_wp2
            (try simp only [Exit.inBlock, Exit.then])
            refine bp_gen ?_
            intro v1 hv1
            have Xz : v1.heap[Bz]? = some (.cells #[.int .u64 s, .int .u64 q, .int .u64 n, .int .u64 f, .int .u64 a, .int .u64 (b - k)] 26 (0, 0)) := by
              rw [hv1]
              (repeat' (first | (with_reducible exact Hz1.out) | (with_reducible exact heap_alloc_new _ _) | (with_reducible exact blk_new (by first | (simp; done) | omega)) | (with_reducible refine blk_drew ?_) | (with_reducible apply put6_0) | (with_reducible apply put6_1) | (with_reducible apply put6_2) | (with_reducible apply put6_3) | (with_reducible apply put6_4) | (with_reducible apply put6_5) | (with_reducible refine blk_else (by omega) ?_) | (with_reducible refine blk_old ?_)))
            have XB : Below w.heap.size w v1 := by
              rw [hv1]
              (repeat' (first | (with_reducible exact HB1.out) | (with_reducible exact Below.refl _ _) | (with_reducible refine below_drewN _ ?_) | (with_reducible refine Below.drew ?_) | (with_reducible refine Below.setCell ?_ (by first | (simp; done) | omega) _) | (with_reducible refine Below.alloc ?_ (by have := HB1.out.size; simp; omega) _)))
            clear z0_ z1_ z2_ z3_ z4_ z5_ zf0_ zf1_ zf2_ zf3_ zf4_ zf5_ zn_ zm_ zl_ a0_ a1_ a2_ a3_ a4_ a5_ af0_ af1_ af2_ af3_ af4_ af5_ an_ am_ al_
            clear hv1 Hz1 Ha1 HB1
            obtain ⟨z0_, z1_, z2_, z3_, z4_, z5_, -⟩ := at6 Xz
            refine bodyPost_ret (v := .tuple #[.agg #[.int .u64 s, .int .u64 q, .int .u64 n, .int .u64 f, .int .u64 a, .int .u64 (b - k)], .int .i64 2]) (by simp [results, Try.results23, go_sem, z0_, z1_, z2_, z3_, z4_, z5_]) rfl ⟨rfl, XB⟩
          · rw [if_neg (fun x => x.elim h2 ha)]
            have g0 : decide (a < k) = false := decide_eq_false ha
            have ga : k ≤ a := by omega
            simp only [mt_val]
            clear h3 h2 hb ha
            go_enter Try.func23, Try.ntmps23
            go_wp2_with fail
            refine cl_gen ?_
            intro v0 hv0
            have XB : Below w.heap.size w v0 := by
              rw [hv0]
              (repeat' (first | (with_reducible exact Below.refl _ _) | (with_reducible assumption) | (with_reducible refine below_drewN _ ?_) | (with_reducible refine Below.drew ?_) | (with_reducible refine Below.setCell ?_ (by simp) _) | (with_reducible refine Below.alloc ?_ (by simp; try omega) _)))
            have Xa : v0.heap[w.heap.size]? = some (.cells #[.int .u64 s, .int .u64 q, .int .u64 n, .int .u64 f, .int .u64 a, .int .u64 b] 26 (0, 0)) := by
              rw [hv0]
              (repeat' (first | (with_reducible exact heap_alloc_new _ _) | (with_reducible exact blk_new (by first | (simp; done) | omega)) | (with_reducible refine blk_drew ?_) | (with_reducible apply put6_0) | (with_reducible apply put6_1) | (with_reducible apply put6_2) | (with_reducible apply put6_3) | (with_reducible apply put6_4) | (with_reducible apply put6_5) | (with_reducible refine blk_else (by omega) ?_) | (with_reducible refine blk_old ?_)))
            have Xz : v0.heap[w.heap.size + 1]? = some (.cells #[.int .u64 0, .int .u64 0, .int .u64 0, .int .u64 0, .int .u64 0, .int .u64 0] 26 (0, 0)) := by
              rw [hv0]
              (repeat' (first | (with_reducible exact heap_alloc_new _ _) | (with_reducible exact blk_new (by first | (simp; done) | omega)) | (with_reducible refine blk_drew ?_) | (with_reducible apply put6_0) | (with_reducible apply put6_1) | (with_reducible apply put6_2) | (with_reducible apply put6_3) | (with_reducible apply put6_4) | (with_reducible apply put6_5) | (with_reducible refine blk_else (by omega) ?_) | (with_reducible refine blk_old ?_)))
            obtain ⟨Bz, hBz⟩ : ∃ x, x = w.heap.size + 1 := ⟨_, rfl⟩
            rw [← hBz] at Xz
            try rw [← hBz]
            have lez : w.heap.size ≤ Bz := by omega
            obtain ⟨Ba, hBa⟩ : ∃ x, x = w.heap.size := ⟨_, rfl⟩
            rw [← hBa] at Xa
            try rw [← hBa]
            have naz : ¬ Ba = Bz := by omega
            have nza : ¬ Bz = Ba := fun h => naz h.symm
            have lea : w.heap.size ≤ Ba := by omega
            clear hBa hBz
            clear hv0
            refine (MY.out _).mono ?_
            rintro e w1 ⟨rfl, bb⟩
            have Hz1 := Lib.hid (blk_call bb Xz)
            have Ha1 := Lib.hid (blk_call bb Xa)
            have HB1 := Lib.hid (bel_onto XB bb XB.size)
            clear Xz Xa XB bb
            obtain ⟨z0_, z1_, z2_, z3_, z4_, z5_, zf0_, zf1_, zf2_, zf3_, zf4_, zf5_⟩ := at6 Hz1.out
            have zn_ := ne_blk Hz1.out
            have zm_ := Ne.symm (a := Bz) zn_
            have zl_ := lt_blk Hz1.out
            obtain ⟨a0_, a1_, a2_, a3_, a4_, a5_, af0_, af1_, af2_, af3_, af4_, af5_⟩ := at6 Ha1.out
            have an_ := ne_blk Ha1.out
            have am_ := Ne.symm (a := Ba) an_
            have al_ := lt_blk Ha1.out
            go_wp2
            (try simp only [Exit.inBlock, Exit.then])
            refine bp_gen ?_
            intro v1 hv1
            have Xz : v1.heap[Bz]? = some (.cells #[.int .u64 s, .int .u64 q, .int .u64 n, .int .u64 f, .int .u64 (a - k), .int .u64 (b - k)] 26 (0, 0)) := by
              rw [hv1]
              (repeat' (first | (with_reducible exact Hz1.out) | (with_reducible exact heap_alloc_new _ _) | (with_reducible exact blk_new (by first | (simp; done) | omega)) | (with_reducible refine blk_drew ?_) | (with_reducible apply put6_0) | (with_reducible apply put6_1) | (with_reducible apply put6_2) | (with_reducible apply put6_3) | (with_reducible apply put6_4) | (with_reducible apply put6_5) | (with_reducible refine blk_else (by omega) ?_) | (with_reducible refine blk_old ?_)))
            have XB : Below w.heap.size w v1 := by
              rw [hv1]
              (repeat' (first | (with_reducible exact HB1.out) | (with_reducible exact Below.refl _ _) | (with_reducible refine below_drewN _ ?_) | (with_reducible refine Below.drew ?_) | (with_reducible refine Below.setCell ?_ (by first | (simp; done) | omega) _) | (with_reducible refine Below.alloc ?_ (by have := HB1.out.size; simp; omega) _)))
            clear z0_ z1_ z2_ z3_ z4_ z5_ zf0_ zf1_ zf2_ zf3_ zf4_ zf5_ zn_ zm_ zl_ a0_ a1_ a2_ a3_ a4_ a5_ af0_ af1_ af2_ af3_ af4_ af5_ an_ am_ al_
            clear hv1 Hz1 Ha1 HB1
            obtain ⟨z0_, z1_, z2_, z3_, z4_, z5_, -⟩ := at6 Xz
            refine bodyPost_ret (v := .tuple #[.agg #[.int .u64 s, .int .u64 q, .int .u64 n, .int .u64 f, .int .u64 (a - k), .int .u64 (b - k)], .int .i64 1]) (by simp [results, Try.results23, go_sem, z0_, z1_, z2_, z3_, z4_, z5_]) rfl ⟨rfl, XB⟩
  · rw [if_neg hok]
    have hne : mtr s q n f a b ≠ 0 := fun x => hok (mtr_ok.1 x)
    have gne : (mtr s q n f a b != 0) = true := by simp [hne]
    generalize mtr s q n f a b = er at *
    simp only [mt_val]
    clear hok
    go_enter Try.func23, Try.ntmps23
    go_wp2_with fail
    refine cl_gen ?_
    intro v0 hv0
    have XB : Below w.heap.size w v0 := by
      rw [hv0]
      (repeat' (first | (with_reducible exact Below.refl _ _) | (with_reducible assumption) | (with_reducible refine below_drewN _ ?_) | (with_reducible refine Below.drew ?_) | (with_reducible refine Below.setCell ?_ (by simp) _) | (with_reducible refine Below.alloc ?_ (by simp; try omega) _)))
    have Xa : v0.heap[w.heap.size]? = some (.cells #[.int .u64 s, .int .u64 q, .int .u64 n, .int .u64 f, .int .u64 a, .int .u64 b] 26 (0, 0)) := by
      rw [hv0]
      (repeat' (first | (with_reducible exact heap_alloc_new _ _) | (with_reducible exact blk_new (by first | (simp; done) | omega)) | (with_reducible refine blk_drew ?_) | (with_reducible apply put6_0) | (with_reducible apply put6_1) | (with_reducible apply put6_2) | (with_reducible apply put6_3) | (with_reducible apply put6_4) | (with_reducible apply put6_5) | (with_reducible refine blk_else (by omega) ?_) | (with_reducible refine blk_old ?_)))
    have Xz : v0.heap[w.heap.size + 1]? = some (.cells #[.int .u64 0, .int .u64 0, .int .u64 0, .int .u64 0, .int .u64 0, .int .u64 0] 26 (0, 0)) := by
      rw [hv0]
      (repeat' (first | (with_reducible exact heap_alloc_new _ _) | (with_reducible exact blk_new (by first | (simp; done) | omega)) | (with_reducible refine blk_drew ?_) | (with_reducible apply put6_0) | (with_reducible apply put6_1) | (with_reducible apply put6_2) | (with_reducible apply put6_3) | (with_reducible apply put6_4) | (with_reducible apply put6_5) | (with_reducible refine blk_else (by omega) ?_) | (with_reducible refine blk_old ?_)))
    obtain ⟨Bz, hBz⟩ : ∃ x, x = w.heap.size + 1 := ⟨_, rfl⟩
    rw [← hBz] at Xz
    try rw [← hBz]
    have lez : w.heap.size ≤ Bz := by omega
    obtain ⟨Ba, hBa⟩ : ∃ x, x = w.heap.size := ⟨_, rfl⟩
    rw [← hBa] at Xa
    try rw [← hBa]
    have naz : ¬ Ba = Bz := by omega
    have nza : ¬ Bz = Ba := fun h => naz h.symm
    have lea : w.heap.size ≤ Ba := by omega
    clear hBa hBz
    clear hv0
    refine (MY.out _).mono ?_
    rintro e w1 ⟨rfl, bb⟩
    have Hz1 := Lib.hid (blk_call bb Xz)
    have Ha1 := Lib.hid (blk_call bb Xa)
    have HB1 := Lib.hid (bel_onto XB bb XB.size)
    clear Xz Xa XB bb
    obtain ⟨z0_, z1_, z2_, z3_, z4_, z5_, zf0_, zf1_, zf2_, zf3_, zf4_, zf5_⟩ := at6 Hz1.out
    have zn_ := ne_blk Hz1.out
    have zm_ := Ne.symm (a := Bz) zn_
    have zl_ := lt_blk Hz1.out
    obtain ⟨a0_, a1_, a2_, a3_, a4_, a5_, af0_, af1_, af2_, af3_, af4_, af5_⟩ := at6 Ha1.out
    have an_ := ne_blk Ha1.out
    have am_ := Ne.symm (a := Ba) an_
    have al_ := lt_blk Ha1.out
    go_wp2
    (try simp only [Exit.inBlock, Exit.then])
    refine bp_gen ?_
    intro v1 hv1
    have Xz : v1.heap[Bz]? = some (.cells #[.int .u64 0, .int .u64 0, .int .u64 0, .int .u64 0, .int .u64 0, .int .u64 0] 26 (0, 0)) := by
      rw [hv1]
      (repeat' (first | (with_reducible exact Hz1.out) | (with_reducible exact heap_alloc_new _ _) | (with_reducible exact blk_new (by first | (simp; done) | omega)) | (with_reducible refine blk_drew ?_) | (with_reducible apply put6_0) | (with_reducible apply put6_1) | (with_reducible apply put6_2) | (with_reducible apply put6_3) | (with_reducible apply put6_4) | (with_reducible apply put6_5) | (with_reducible refine blk_else (by omega) ?_) | (with_reducible refine blk_old ?_)))
    have XB : Below w.heap.size w v1 := by
      rw [hv1]
      (repeat' (first | (with_reducible exact HB1.out) | (with_reducible exact Below.refl _ _) | (with_reducible refine below_drewN _ ?_) | (with_reducible refine Below.drew ?_) | (with_reducible refine Below.setCell ?_ (by first | (simp; done) | omega) _) | (with_reducible refine Below.alloc ?_ (by have := HB1.out.size; simp; omega) _)))
    clear z0_ z1_ z2_ z3_ z4_ z5_ zf0_ zf1_ zf2_ zf3_ zf4_ zf5_ zn_ zm_ zl_ a0_ a1_ a2_ a3_ a4_ a5_ af0_ af1_ af2_ af3_ af4_ af5_ an_ am_ al_
    clear hv1 Hz1 Ha1 HB1
    obtain ⟨z0_, z1_, z2_, z3_, z4_, z5_, -⟩ := at6 Xz
    refine bodyPost_ret (v := .tuple #[.agg #[.int .u64 0, .int .u64 0, .int .u64 0, .int .u64 0, .int .u64 0, .int .u64 0], .int .i64 3]) (by simp [results, Try.results23, go_sem, z0_, z1_, z2_, z3_, z4_, z5_]) rfl ⟨rfl, XB⟩
end Go.Proofs.Ytmkgadndfiiacaa
