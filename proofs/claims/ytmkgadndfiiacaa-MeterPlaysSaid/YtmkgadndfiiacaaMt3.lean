/-
  What package meter's New calls return; the example of layer 21, walked: true. No condition.
-/
import Derived.Test.YtmkgadndfiiacaaMt2c
import Derived.Laws.StructEq
import Derived.RegionTactic
namespace Go.Proofs.Ytmkgadndfiiacaa
set_option linter.unusedVariables false
set_option linter.unusedSimpArgs false
open Go.ChangeShapes Go.WideShapes Go.ChangeAt Go.RowKit
attribute [local go_sem] alloc_drewN setCell_drewN

set_option maxRecDepth 100000 in
set_option maxHeartbeats 4000000 in
theorem mo_new (r n f : Int) (w : World) :
    Calls Try.prog 12 #[.int .u64 r, .int .u64 n, .int .u64 f] w fun e w' => e = .returned (.tuple #[if moe r n f = 0 then .agg #[.int .u64 r, .int .u64 n, .int .u64 f, .int .u64 n, .int .u64 f] else .agg #[.int .u64 0, .int .u64 0, .int .u64 0, .int .u64 0, .int .u64 0], .int .i64 (moe r n f)]) ∧ Below w.heap.size w w' := by
  have CK := Lib.hid (fun W => mo_check r n f n f W)
  generalize moe r n f = k at *
  by_cases hk : k = 0
  · subst hk
    rw [if_pos rfl]
    go_enter Try.func12, Try.ntmps12
    go_wp2_with fail
    refine (CK.out _).mono ?_
    rintro e w2 ⟨rfl, rfl⟩
    go_wp2
    (try simp only [Exit.inBlock, Exit.then])
    refine bodyPost_ret (v := .tuple #[.agg #[.int .u64 r, .int .u64 n, .int .u64 f, .int .u64 n, .int .u64 f], .int .i64 0]) (by simp [results, Try.results12, go_sem]) rfl ⟨rfl, ?_⟩
    (repeat' (first | (with_reducible exact Below.refl _ _) | (with_reducible assumption) | (with_reducible refine below_drewN _ ?_) | (with_reducible refine Below.drew ?_) | (with_reducible refine Below.setCell ?_ (by simp) _) | (with_reducible refine Below.alloc ?_ (by simp; try omega) _)))
  · rw [if_neg hk]
    have g : (k != 0) = true := by simp [hk]
    clear hk
    go_enter Try.func12, Try.ntmps12
    go_wp2_with fail
    refine (CK.out _).mono ?_
    rintro e w2 ⟨rfl, rfl⟩
    go_wp2
    (try simp only [Exit.inBlock, Exit.then])
    refine bodyPost_ret (v := .tuple #[.agg #[.int .u64 0, .int .u64 0, .int .u64 0, .int .u64 0, .int .u64 0], .int .i64 k]) (by simp [results, Try.results12, go_sem]) rfl ⟨rfl, ?_⟩
    (repeat' (first | (with_reducible exact Below.refl _ _) | (with_reducible assumption) | (with_reducible refine below_drewN _ ?_) | (with_reducible refine Below.drew ?_) | (with_reducible refine Below.setCell ?_ (by simp) _) | (with_reducible refine Below.alloc ?_ (by simp; try omega) _)))
set_option maxRecDepth 100000 in
set_option maxHeartbeats 4000000 in
theorem mt_new (s q n f : Int) (w : World) :
    Calls Try.prog 14 #[.int .u64 s, .int .u64 q, .int .u64 n, .int .u64 f] w fun e w' => e = .returned (.tuple #[if mte s q n f = 0 then .agg #[.int .u64 s, .int .u64 q, .int .u64 n, .int .u64 f, .int .u64 n, .int .u64 f] else .agg #[.int .u64 0, .int .u64 0, .int .u64 0, .int .u64 0, .int .u64 0, .int .u64 0], .int .i64 (mte s q n f)]) ∧ Below w.heap.size w w' := by
  have CK := Lib.hid (fun W => mt_check s q n f n f W)
  generalize mte s q n f = k at *
  by_cases hk : k = 0
  · subst hk
    rw [if_pos rfl]
    go_enter Try.func14, Try.ntmps14
    go_wp2_with fail
    refine (CK.out _).mono ?_
    rintro e w2 ⟨rfl, rfl⟩
    go_wp2
    (try simp only [Exit.inBlock, Exit.then])
    refine bodyPost_ret (v := .tuple #[.agg #[.int .u64 s, .int .u64 q, .int .u64 n, .int .u64 f, .int .u64 n, .int .u64 f], .int .i64 0]) (by simp [results, Try.results14, go_sem]) rfl ⟨rfl, ?_⟩
    (repeat' (first | (with_reducible exact Below.refl _ _) | (with_reducible assumption) | (with_reducible refine below_drewN _ ?_) | (with_reducible refine Below.drew ?_) | (with_reducible refine Below.setCell ?_ (by simp) _) | (with_reducible refine Below.alloc ?_ (by simp; try omega) _)))
  · rw [if_neg hk]
    have g : (k != 0) = true := by simp [hk]
    clear hk
    go_enter Try.func14, Try.ntmps14
    go_wp2_with fail
    refine (CK.out _).mono ?_
    rintro e w2 ⟨rfl, rfl⟩
    go_wp2
    (try simp only [Exit.inBlock, Exit.then])
    refine bodyPost_ret (v := .tuple #[.agg #[.int .u64 0, .int .u64 0, .int .u64 0, .int .u64 0, .int .u64 0, .int .u64 0], .int .i64 k]) (by simp [results, Try.results14, go_sem]) rfl ⟨rfl, ?_⟩
    (repeat' (first | (with_reducible exact Below.refl _ _) | (with_reducible assumption) | (with_reducible refine below_drewN _ ?_) | (with_reducible refine Below.drew ?_) | (with_reducible refine Below.setCell ?_ (by simp) _) | (with_reducible refine Below.alloc ?_ (by simp; try omega) _)))
theorem owd {r n f a b : Int} (h : (0 ≤ r ∧ r ≤ 18446744073709551615) ∧ (0 ≤ n ∧ n ≤ 18446744073709551615) ∧ (0 ≤ f ∧ f ≤ 18446744073709551615) ∧ (0 ≤ a ∧ a ≤ 18446744073709551615) ∧ 0 ≤ b ∧ b ≤ 18446744073709551615) : MO.wd ⟨r, n, f, a, b⟩ := h
set_option maxRecDepth 100000 in
set_option maxHeartbeats 4000000 in
theorem lives21 (w : World) : Calls Try.prog 11 #[] w fun e w' => e = .returned (.bool true) ∧ Below w.heap.size w w' := by
  have NW := Lib.hid (fun W => mo_new 1 10 5 W)
  rw [show moe 1 10 5 = 0 from by decide, if_pos rfl] at NW
  have hm : Try.prog.eqGuardType Try.prog.depth 141 = false := by kernel_rfl
  have C0 := Lib.hid (fun W => mo_col ⟨1, 10, 5, 10, 5⟩ (owd (by decide)) 8 (by decide) (by decide) 1 W)
  rw [show MO.col ⟨1, 10, 5, 10, 5⟩ 8 1 = (⟨1, 10, 5, 2, 5⟩, 1) from by decide] at C0
  simp only [mo_val] at C0
  have C1 := Lib.hid (fun W => mo_col ⟨1, 10, 5, 2, 5⟩ (owd (by decide)) 5 (by decide) (by decide) 1 W)
  rw [show MO.col ⟨1, 10, 5, 2, 5⟩ 5 1 = (⟨1, 10, 5, 2, 0⟩, 2) from by decide] at C1
  simp only [mo_val] at C1
  have C2 := Lib.hid (fun W => mo_col ⟨1, 10, 5, 2, 0⟩ (owd (by decide)) 3 (by decide) (by decide) 1 W)
  rw [show MO.col ⟨1, 10, 5, 2, 0⟩ 3 1 = (⟨1, 10, 5, 2, 0⟩, 3) from by decide] at C2
  simp only [mo_val] at C2
  have C3 := Lib.hid (fun W => mo_col ⟨1, 10, 5, 2, 0⟩ (owd (by decide)) 2 (by decide) (by decide) 1 W)
  rw [show MO.col ⟨1, 10, 5, 2, 0⟩ 2 1 = (⟨1, 10, 5, 0, 0⟩, 1) from by decide] at C3
  simp only [mo_val] at C3
  go_enter Try.func11, Try.ntmps11
  have heq : ∀ W : World, (Op.equalIn 10000 141 (.agg #[.int .i64 1, .int .i64 2, .int .i64 3, .int .i64 1]) (.agg #[.int .i64 1, .int .i64 2, .int .i64 3, .int .i64 1])).run Try.prog W = .ok true W := fun _ => by kernel_rfl
  have hx0 : ∀ W : World, (Instr.index 142 (.agg #[.int .u64 8, .int .u64 5, .int .u64 3, .int .u64 2]) (.int .i64 0)).run Try.prog W = .ok (.int .u64 8) W := fun _ => by kernel_rfl
  have hx1 : ∀ W : World, (Instr.index 142 (.agg #[.int .u64 8, .int .u64 5, .int .u64 3, .int .u64 2]) (.int .i64 1)).run Try.prog W = .ok (.int .u64 5) W := fun _ => by kernel_rfl
  have hx2 : ∀ W : World, (Instr.index 142 (.agg #[.int .u64 8, .int .u64 5, .int .u64 3, .int .u64 2]) (.int .i64 2)).run Try.prog W = .ok (.int .u64 3) W := fun _ => by kernel_rfl
  have hx3 : ∀ W : World, (Instr.index 142 (.agg #[.int .u64 8, .int .u64 5, .int .u64 3, .int .u64 2]) (.int .i64 3)).run Try.prog W = .ok (.int .u64 2) W := fun _ => by kernel_rfl
  go_wp2_with fail
  refine (NW.out _).mono ?_
  rintro e w0 ⟨rfl, bb⟩
  have HB0 := Lib.hid bb
  clear bb
  go_wp2
  refine wp_loop_rounds 5 ?_
  rw [rounds_succ]
  go_wp2_with fail
  refine cl_gen ?_
  intro v0 hv0
  have XB : Below w.heap.size w v0 := by
    rw [hv0]
    (repeat' (first | (with_reducible exact HB0.out) | (with_reducible exact Below.refl _ _) | (with_reducible refine below_drewN _ ?_) | (with_reducible refine Below.drew ?_) | (with_reducible refine Below.setCell ?_ (by first | (simp; done) | omega) _) | (with_reducible refine Below.alloc ?_ (by have := HB0.out.size; simp; omega) _)))
  have Xm : v0.heap[w0.heap.size]? = some (.cells #[.int .u64 1, .int .u64 10, .int .u64 5, .int .u64 10, .int .u64 5] 29 (0, 0)) := by
    rw [hv0]
    (repeat' (first | (with_reducible exact heap_alloc_new _ _) | (with_reducible exact blk_new (by first | (simp; done) | omega)) | (with_reducible refine blk_drew ?_) | (with_reducible apply put1_0) | (with_reducible apply put2_0) | (with_reducible apply put2_1) | (with_reducible apply put3_0) | (with_reducible apply put3_1) | (with_reducible apply put3_2) | (with_reducible apply put4_0) | (with_reducible apply put4_1) | (with_reducible apply put4_2) | (with_reducible apply put4_3) | (with_reducible apply put5_0) | (with_reducible apply put5_1) | (with_reducible apply put5_2) | (with_reducible apply put5_3) | (with_reducible apply put5_4) | (with_reducible apply put6_0) | (with_reducible apply put6_1) | (with_reducible apply put6_2) | (with_reducible apply put6_3) | (with_reducible apply put6_4) | (with_reducible apply put6_5) | (with_reducible refine blk_else (by omega) ?_) | (with_reducible refine blk_old ?_)))
  have Xg : v0.heap[w0.heap.size + 1]? = some (.cells #[.int .i64 0, .int .i64 0, .int .i64 0, .int .i64 0] 141 (0, 0)) := by
    rw [hv0]
    (repeat' (first | (with_reducible exact heap_alloc_new _ _) | (with_reducible exact blk_new (by first | (simp; done) | omega)) | (with_reducible refine blk_drew ?_) | (with_reducible apply put1_0) | (with_reducible apply put2_0) | (with_reducible apply put2_1) | (with_reducible apply put3_0) | (with_reducible apply put3_1) | (with_reducible apply put3_2) | (with_reducible apply put4_0) | (with_reducible apply put4_1) | (with_reducible apply put4_2) | (with_reducible apply put4_3) | (with_reducible apply put5_0) | (with_reducible apply put5_1) | (with_reducible apply put5_2) | (with_reducible apply put5_3) | (with_reducible apply put5_4) | (with_reducible apply put6_0) | (with_reducible apply put6_1) | (with_reducible apply put6_2) | (with_reducible apply put6_3) | (with_reducible apply put6_4) | (with_reducible apply put6_5) | (with_reducible refine blk_else (by omega) ?_) | (with_reducible refine blk_old ?_)))
  obtain ⟨Bg, hBg⟩ : ∃ x, x = w0.heap.size + 1 := ⟨_, rfl⟩
  rw [← hBg] at Xg
  try rw [← hBg]
  have leg : w.heap.size ≤ Bg := by have := HB0.out.size; omega
  obtain ⟨Bm, hBm⟩ : ∃ x, x = w0.heap.size := ⟨_, rfl⟩
  rw [← hBm] at Xm
  try rw [← hBm]
  have nmg : ¬ Bm = Bg := by omega
  have ngm : ¬ Bg = Bm := fun h => nmg h.symm
  have lem : w.heap.size ≤ Bm := by have := HB0.out.size; omega
  clear hBm hBg
  clear hv0 HB0
  refine (C0.out _).mono ?_
  rintro e w1 ⟨rfl, bb⟩
  have Hg1 := Lib.hid (blk_call bb Xg)
  have Hm1 := Lib.hid (blk_call bb Xm)
  have HB1 := Lib.hid (bel_onto XB bb XB.size)
  clear Xg Xm XB bb
  obtain ⟨g0_, g1_, g2_, g3_, gf0_, gf1_, gf2_, gf3_⟩ := at4 Hg1.out
  have gn_ := ne_blk Hg1.out
  have gm_ := Ne.symm (a := Bg) gn_
  have gl_ := lt_blk Hg1.out
  obtain ⟨m0_, m1_, m2_, m3_, m4_, mf0_, mf1_, mf2_, mf3_, mf4_⟩ := at5 Hm1.out
  have mn_ := ne_blk Hm1.out
  have mm_ := Ne.symm (a := Bm) mn_
  have ml_ := lt_blk Hm1.out
  go_wp2
  rw [rounds_succ]
  go_wp2_with fail
  refine cl_gen ?_
  intro v1 hv1
  have Xg : v1.heap[Bg]? = some (.cells #[.int .i64 1, .int .i64 0, .int .i64 0, .int .i64 0] 141 (0, 0)) := by
    rw [hv1]
    (repeat' (first | (with_reducible exact Hg1.out) | (with_reducible exact Hm1.out) | (with_reducible exact heap_alloc_new _ _) | (with_reducible exact blk_new (by first | (simp; done) | omega)) | (with_reducible refine blk_drew ?_) | (with_reducible apply put1_0) | (with_reducible apply put2_0) | (with_reducible apply put2_1) | (with_reducible apply put3_0) | (with_reducible apply put3_1) | (with_reducible apply put3_2) | (with_reducible apply put4_0) | (with_reducible apply put4_1) | (with_reducible apply put4_2) | (with_reducible apply put4_3) | (with_reducible apply put5_0) | (with_reducible apply put5_1) | (with_reducible apply put5_2) | (with_reducible apply put5_3) | (with_reducible apply put5_4) | (with_reducible apply put6_0) | (with_reducible apply put6_1) | (with_reducible apply put6_2) | (with_reducible apply put6_3) | (with_reducible apply put6_4) | (with_reducible apply put6_5) | (with_reducible refine blk_else (by omega) ?_) | (with_reducible refine blk_old ?_)))
  have Xm : v1.heap[Bm]? = some (.cells #[.int .u64 1, .int .u64 10, .int .u64 5, .int .u64 2, .int .u64 5] 29 (0, 0)) := by
    rw [hv1]
    (repeat' (first | (with_reducible exact Hg1.out) | (with_reducible exact Hm1.out) | (with_reducible exact heap_alloc_new _ _) | (with_reducible exact blk_new (by first | (simp; done) | omega)) | (with_reducible refine blk_drew ?_) | (with_reducible apply put1_0) | (with_reducible apply put2_0) | (with_reducible apply put2_1) | (with_reducible apply put3_0) | (with_reducible apply put3_1) | (with_reducible apply put3_2) | (with_reducible apply put4_0) | (with_reducible apply put4_1) | (with_reducible apply put4_2) | (with_reducible apply put4_3) | (with_reducible apply put5_0) | (with_reducible apply put5_1) | (with_reducible apply put5_2) | (with_reducible apply put5_3) | (with_reducible apply put5_4) | (with_reducible apply put6_0) | (with_reducible apply put6_1) | (with_reducible apply put6_2) | (with_reducible apply put6_3) | (with_reducible apply put6_4) | (with_reducible apply put6_5) | (with_reducible refine blk_else (by omega) ?_) | (with_reducible refine blk_old ?_)))
  have XB : Below w.heap.size w v1 := by
    rw [hv1]
    (repeat' (first | (with_reducible exact HB1.out) | (with_reducible exact Below.refl _ _) | (with_reducible refine below_drewN _ ?_) | (with_reducible refine Below.drew ?_) | (with_reducible refine Below.setCell ?_ (by first | (simp; done) | omega) _) | (with_reducible refine Below.alloc ?_ (by have := HB1.out.size; simp; omega) _)))
  clear g0_ g1_ g2_ g3_ gf0_ gf1_ gf2_ gf3_ gn_ gm_ gl_ m0_ m1_ m2_ m3_ m4_ mf0_ mf1_ mf2_ mf3_ mf4_ mn_ mm_ ml_
  clear hv1 Hg1 Hm1 HB1
  refine (C1.out _).mono ?_
  rintro e w2 ⟨rfl, bb⟩
  have Hg2 := Lib.hid (blk_call bb Xg)
  have Hm2 := Lib.hid (blk_call bb Xm)
  have HB2 := Lib.hid (bel_onto XB bb XB.size)
  clear Xg Xm XB bb
  obtain ⟨g0_, g1_, g2_, g3_, gf0_, gf1_, gf2_, gf3_⟩ := at4 Hg2.out
  have gn_ := ne_blk Hg2.out
  have gm_ := Ne.symm (a := Bg) gn_
  have gl_ := lt_blk Hg2.out
  obtain ⟨m0_, m1_, m2_, m3_, m4_, mf0_, mf1_, mf2_, mf3_, mf4_⟩ := at5 Hm2.out
  have mn_ := ne_blk Hm2.out
  have mm_ := Ne.symm (a := Bm) mn_
  have ml_ := lt_blk Hm2.out
  go_wp2
  rw [rounds_succ]
  go_wp2_with fail
  refine cl_gen ?_
  intro v2 hv2
  have Xg : v2.heap[Bg]? = some (.cells #[.int .i64 1, .int .i64 2, .int .i64 0, .int .i64 0] 141 (0, 0)) := by
    rw [hv2]
    (repeat' (first | (with_reducible exact Hg2.out) | (with_reducible exact Hm2.out) | (with_reducible exact heap_alloc_new _ _) | (with_reducible exact blk_new (by first | (simp; done) | omega)) | (with_reducible refine blk_drew ?_) | (with_reducible apply put1_0) | (with_reducible apply put2_0) | (with_reducible apply put2_1) | (with_reducible apply put3_0) | (with_reducible apply put3_1) | (with_reducible apply put3_2) | (with_reducible apply put4_0) | (with_reducible apply put4_1) | (with_reducible apply put4_2) | (with_reducible apply put4_3) | (with_reducible apply put5_0) | (with_reducible apply put5_1) | (with_reducible apply put5_2) | (with_reducible apply put5_3) | (with_reducible apply put5_4) | (with_reducible apply put6_0) | (with_reducible apply put6_1) | (with_reducible apply put6_2) | (with_reducible apply put6_3) | (with_reducible apply put6_4) | (with_reducible apply put6_5) | (with_reducible refine blk_else (by omega) ?_) | (with_reducible refine blk_old ?_)))
  have Xm : v2.heap[Bm]? = some (.cells #[.int .u64 1, .int .u64 10, .int .u64 5, .int .u64 2, .int .u64 0] 29 (0, 0)) := by
    rw [hv2]
    (repeat' (first | (with_reducible exact Hg2.out) | (with_reducible exact Hm2.out) | (with_reducible exact heap_alloc_new _ _) | (with_reducible exact blk_new (by first | (simp; done) | omega)) | (with_reducible refine blk_drew ?_) | (with_reducible apply put1_0) | (with_reducible apply put2_0) | (with_reducible apply put2_1) | (with_reducible apply put3_0) | (with_reducible apply put3_1) | (with_reducible apply put3_2) | (with_reducible apply put4_0) | (with_reducible apply put4_1) | (with_reducible apply put4_2) | (with_reducible apply put4_3) | (with_reducible apply put5_0) | (with_reducible apply put5_1) | (with_reducible apply put5_2) | (with_reducible apply put5_3) | (with_reducible apply put5_4) | (with_reducible apply put6_0) | (with_reducible apply put6_1) | (with_reducible apply put6_2) | (with_reducible apply put6_3) | (with_reducible apply put6_4) | (with_reducible apply put6_5) | (with_reducible refine blk_else (by omega) ?_) | (with_reducible refine blk_old ?_)))
  have XB : Below w.heap.size w v2 := by
    rw [hv2]
    (repeat' (first | (with_reducible exact HB2.out) | (with_reducible exact Below.refl _ _) | (with_reducible refine below_drewN _ ?_) | (with_reducible refine Below.drew ?_) | (with_reducible refine Below.setCell ?_ (by first | (simp; done) | omega) _) | (with_reducible refine Below.alloc ?_ (by have := HB2.out.size; simp; omega) _)))
  clear g0_ g1_ g2_ g3_ gf0_ gf1_ gf2_ gf3_ gn_ gm_ gl_ m0_ m1_ m2_ m3_ m4_ mf0_ mf1_ mf2_ mf3_ mf4_ mn_ mm_ ml_
  clear hv2 Hg2 Hm2 HB2
  refine (C2.out _).mono ?_
  rintro e w3 ⟨rfl, bb⟩
  have Hg3 := Lib.hid (blk_call bb Xg)
  have Hm3 := Lib.hid (blk_call bb Xm)
  have HB3 := Lib.hid (bel_onto XB bb XB.size)
  clear Xg Xm XB bb
  obtain ⟨g0_, g1_, g2_, g3_, gf0_, gf1_, gf2_, gf3_⟩ := at4 Hg3.out
  have gn_ := ne_blk Hg3.out
  have gm_ := Ne.symm (a := Bg) gn_
  have gl_ := lt_blk Hg3.out
  obtain ⟨m0_, m1_, m2_, m3_, m4_, mf0_, mf1_, mf2_, mf3_, mf4_⟩ := at5 Hm3.out
  have mn_ := ne_blk Hm3.out
  have mm_ := Ne.symm (a := Bm) mn_
  have ml_ := lt_blk Hm3.out
  go_wp2
  rw [rounds_succ]
  go_wp2_with fail
  refine cl_gen ?_
  intro v3 hv3
  have Xg : v3.heap[Bg]? = some (.cells #[.int .i64 1, .int .i64 2, .int .i64 3, .int .i64 0] 141 (0, 0)) := by
    rw [hv3]
    (repeat' (first | (with_reducible exact Hg3.out) | (with_reducible exact Hm3.out) | (with_reducible exact heap_alloc_new _ _) | (with_reducible exact blk_new (by first | (simp; done) | omega)) | (with_reducible refine blk_drew ?_) | (with_reducible apply put1_0) | (with_reducible apply put2_0) | (with_reducible apply put2_1) | (with_reducible apply put3_0) | (with_reducible apply put3_1) | (with_reducible apply put3_2) | (with_reducible apply put4_0) | (with_reducible apply put4_1) | (with_reducible apply put4_2) | (with_reducible apply put4_3) | (with_reducible apply put5_0) | (with_reducible apply put5_1) | (with_reducible apply put5_2) | (with_reducible apply put5_3) | (with_reducible apply put5_4) | (with_reducible apply put6_0) | (with_reducible apply put6_1) | (with_reducible apply put6_2) | (with_reducible apply put6_3) | (with_reducible apply put6_4) | (with_reducible apply put6_5) | (with_reducible refine blk_else (by omega) ?_) | (with_reducible refine blk_old ?_)))
  have Xm : v3.heap[Bm]? = some (.cells #[.int .u64 1, .int .u64 10, .int .u64 5, .int .u64 2, .int .u64 0] 29 (0, 0)) := by
    rw [hv3]
    (repeat' (first | (with_reducible exact Hg3.out) | (with_reducible exact Hm3.out) | (with_reducible exact heap_alloc_new _ _) | (with_reducible exact blk_new (by first | (simp; done) | omega)) | (with_reducible refine blk_drew ?_) | (with_reducible apply put1_0) | (with_reducible apply put2_0) | (with_reducible apply put2_1) | (with_reducible apply put3_0) | (with_reducible apply put3_1) | (with_reducible apply put3_2) | (with_reducible apply put4_0) | (with_reducible apply put4_1) | (with_reducible apply put4_2) | (with_reducible apply put4_3) | (with_reducible apply put5_0) | (with_reducible apply put5_1) | (with_reducible apply put5_2) | (with_reducible apply put5_3) | (with_reducible apply put5_4) | (with_reducible apply put6_0) | (with_reducible apply put6_1) | (with_reducible apply put6_2) | (with_reducible apply put6_3) | (with_reducible apply put6_4) | (with_reducible apply put6_5) | (with_reducible refine blk_else (by omega) ?_) | (with_reducible refine blk_old ?_)))
  have XB : Below w.heap.size w v3 := by
    rw [hv3]
    (repeat' (first | (with_reducible exact HB3.out) | (with_reducible exact Below.refl _ _) | (with_reducible refine below_drewN _ ?_) | (with_reducible refine Below.drew ?_) | (with_reducible refine Below.setCell ?_ (by first | (simp; done) | omega) _) | (with_reducible refine Below.alloc ?_ (by have := HB3.out.size; simp; omega) _)))
  clear g0_ g1_ g2_ g3_ gf0_ gf1_ gf2_ gf3_ gn_ gm_ gl_ m0_ m1_ m2_ m3_ m4_ mf0_ mf1_ mf2_ mf3_ mf4_ mn_ mm_ ml_
  clear hv3 Hg3 Hm3 HB3
  refine (C3.out _).mono ?_
  rintro e w4 ⟨rfl, bb⟩
  have Hg4 := Lib.hid (blk_call bb Xg)
  have Hm4 := Lib.hid (blk_call bb Xm)
  have HB4 := Lib.hid (bel_onto XB bb XB.size)
  clear Xg Xm XB bb
  obtain ⟨g0_, g1_, g2_, g3_, gf0_, gf1_, gf2_, gf3_⟩ := at4 Hg4.out
  have gn_ := ne_blk Hg4.out
  have gm_ := Ne.symm (a := Bg) gn_
  have gl_ := lt_blk Hg4.out
  obtain ⟨m0_, m1_, m2_, m3_, m4_, mf0_, mf1_, mf2_, mf3_, mf4_⟩ := at5 Hm4.out
  have mn_ := ne_blk Hm4.out
  have mm_ := Ne.symm (a := Bm) mn_
  have ml_ := lt_blk Hm4.out
  go_wp2
  rw [rounds_succ]
  go_wp2
  go_ret
  refine ⟨rfl, ?_⟩
  (repeat' (first | (with_reducible exact HB4.out) | (with_reducible exact Below.refl _ _) | (with_reducible refine below_drewN _ ?_) | (with_reducible refine Below.drew ?_) | (with_reducible refine Below.setCell ?_ (by first | (simp; done) | omega) _) | (with_reducible refine Below.alloc ?_ (by have := HB4.out.size; simp; omega) _)))
end Go.Proofs.Ytmkgadndfiiacaa
