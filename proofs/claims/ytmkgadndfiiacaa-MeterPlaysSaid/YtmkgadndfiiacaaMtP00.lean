/-
  The law on meters: one of four cases. No condition but the case.
-/
import Derived.Test.YtmkgadndfiiacaaMtPH
import Derived.Laws.StructEq
import Derived.Deep.DeepCutAuto
namespace Go.Proofs.Ytmkgadndfiiacaa
set_option linter.unusedVariables false
set_option linter.unusedSimpArgs false
open Go.ChangeShapes Go.WideShapes Go.ChangeAt Go.RowKit
attribute [local go_sem] alloc_drewN setCell_drewN

set_option maxRecDepth 100000 in
set_option maxHeartbeats 60000000 in
theorem walk_meterPlays_00 (r : Int) (r0 : 0 ≤ r) (r1 : r ≤ 18446744073709551615) (n : Int) (n0 : 0 ≤ n) (n1 : n ≤ 18446744073709551615) (f : Int) (f0 : 0 ≤ f) (f1 : f ≤ 18446744073709551615) (a : Int) (a0 : 0 ≤ a) (a1 : a ≤ 18446744073709551615) (b : Int) (b0 : 0 ≤ b) (b1 : b ≤ 18446744073709551615) (s : Int) (s0 : 0 ≤ s) (s1 : s ≤ 18446744073709551615) (q : Int) (q0 : 0 ≤ q) (q1 : q ≤ 18446744073709551615) (m : Int) (m0 : 0 ≤ m) (m1 : m ≤ 18446744073709551615) (g : Int) (g0 : 0 ≤ g) (g1 : g ≤ 18446744073709551615) (c : Int) (c0 : 0 ≤ c) (c1 : c ≤ 18446744073709551615) (d : Int) (d0 : 0 ≤ d) (d1 : d ≤ 18446744073709551615) (aa : Option Addr) (nn cc : Nat) (fs : List Act21) {w : World} (hr : RowA21 w aa nn fs) (hcap : nn ≤ cc) (hX : moe r n f = 0) (hY : mte s q m g = 0) :
    Calls Try.prog 3 #[.agg #[.int .u64 r, .int .u64 n, .int .u64 f, .int .u64 a, .int .u64 b], .agg #[.int .u64 s, .int .u64 q, .int .u64 m, .int .u64 g, .int .u64 c, .int .u64 d], .slice aa nn cc] w fun e w' => e = .returned (.bool true) ∧ Below w.heap.size w w' := by
  have LV := Lib.hid (fun W => lives21 W)
  have hm1 : Try.prog.eqGuardType Try.prog.depth 29 = false := by kernel_rfl
  have hm2 : Try.prog.eqGuardType Try.prog.depth 34 = false := by kernel_rfl
  have hm3 : Try.prog.eqGuardType Try.prog.depth 24 = false := by kernel_rfl
  have hm4 : Try.prog.eqGuardType Try.prog.depth 26 = false := by kernel_rfl
  have WO : MO.wd ⟨r, n, f, a, b⟩ := ⟨⟨r0, r1⟩, ⟨n0, n1⟩, ⟨f0, f1⟩, ⟨a0, a1⟩, b0, b1⟩
  have WT : MT.wd ⟨s, q, m, g, c, d⟩ := ⟨⟨s0, s1⟩, ⟨q0, q1⟩, ⟨m0, m1⟩, ⟨g0, g1⟩, ⟨c0, c1⟩, d0, d1⟩
  have N1 := Lib.hid (fun W => mo_new r n f W)
  have N2 := Lib.hid (fun W => mt_new s q m g W)
  have M1 := Lib.hid (fun (W : World) => ((mo_rmay r n f n f W).mono (by rintro e w' ⟨rfl, rfl⟩; rw [mor_new]; exact ⟨rfl, (Below.refl _ W).alloc (Nat.le_refl _) _⟩) : Calls Try.prog 13 #[.agg #[.int .u64 r, .int .u64 n, .int .u64 f, .int .u64 n, .int .u64 f]] W fun e w' => e = .returned (.int .i64 (moe r n f)) ∧ Below W.heap.size W w'))
  have M2 := Lib.hid (fun (W : World) => ((mt_rmay s q m g m g W).mono (by rintro e w' ⟨rfl, rfl⟩; rw [mtr_new]; exact ⟨rfl, (Below.refl _ W).alloc (Nat.le_refl _) _⟩) : Calls Try.prog 15 #[.agg #[.int .u64 s, .int .u64 q, .int .u64 m, .int .u64 g, .int .u64 m, .int .u64 g]] W fun e w' => e = .returned (.int .i64 (mte s q m g)) ∧ Below W.heap.size W w'))
  have HR := Lib.hid hr
  have hnm := hr.2.1
  unfold maxLen at hnm
  clear hr
  by_cases hlong : 200 < nn
  · have g200 : decide ((200 : Int) < nn) = true := decide_eq_true (by omega)
    go_enter Try.func3, Try.ntmps3
    go_wp2_with fail
    refine cl_gen ?_
    intro v0 hv0
    have XB : Below w.heap.size w v0 := by
      rw [hv0]
      (repeat' (first | (with_reducible exact Below.refl _ _) | (with_reducible assumption) | (with_reducible refine below_drewN _ ?_) | (with_reducible refine Below.drew ?_) | (with_reducible refine Below.setCell ?_ (by simp) _) | (with_reducible refine Below.alloc ?_ (by simp; try omega) _)))
    clear hv0
    refine (LV.out _).mono ?_
    rintro e w1 ⟨rfl, bb⟩
    have HB1 := Lib.hid (bel_onto XB bb XB.size)
    clear XB bb
    go_wp2
    go_ret
    exact ⟨rfl, HB1.out⟩
  · have g200 : decide ((200 : Int) < nn) = false := decide_eq_false (by omega)
    have hn200 : nn ≤ 200 := by omega
    clear hlong
    obtain ⟨o0, o1, o2, o3, o4, eO, hB, hN1⟩ : ∃ o0 o1 o2 o3 o4 eO : Int, (eO = 0 ∧ r = o0 ∧ n = o1 ∧ f = o2 ∧ n = o3 ∧ f = o4 ∨ eO ≠ 0 ∧ 0 = o0 ∧ 0 = o1 ∧ 0 = o2 ∧ 0 = o3 ∧ 0 = o4) ∧
        (moe r n f = eO ∧ (Value.tuple #[if moe r n f = 0 then .agg #[.int .u64 r, .int .u64 n, .int .u64 f, .int .u64 n, .int .u64 f] else .agg #[.int .u64 0, .int .u64 0, .int .u64 0, .int .u64 0, .int .u64 0], .int .i64 (moe r n f)]) = .tuple #[.agg #[.int .u64 o0, .int .u64 o1, .int .u64 o2, .int .u64 o3, .int .u64 o4], .int .i64 eO]) := by
      by_cases x : moe r n f = 0
      · exact ⟨r, n, f, n, f, 0, Or.inl ⟨rfl, rfl, rfl, rfl, rfl, rfl⟩, x, by rw [x, if_pos rfl]⟩
      · exact ⟨0, 0, 0, 0, 0, moe r n f, Or.inr ⟨x, rfl, rfl, rfl, rfl, rfl⟩, rfl, by rw [if_neg x]⟩
    obtain ⟨t0, t1, t2, t3, t4, t5, eT, hC, hN2⟩ : ∃ t0 t1 t2 t3 t4 t5 eT : Int, (eT = 0 ∧ s = t0 ∧ q = t1 ∧ m = t2 ∧ g = t3 ∧ m = t4 ∧ g = t5 ∨ eT ≠ 0 ∧ 0 = t0 ∧ 0 = t1 ∧ 0 = t2 ∧ 0 = t3 ∧ 0 = t4 ∧ 0 = t5) ∧
        (mte s q m g = eT ∧ (Value.tuple #[if mte s q m g = 0 then .agg #[.int .u64 s, .int .u64 q, .int .u64 m, .int .u64 g, .int .u64 m, .int .u64 g] else .agg #[.int .u64 0, .int .u64 0, .int .u64 0, .int .u64 0, .int .u64 0, .int .u64 0], .int .i64 (mte s q m g)]) = .tuple #[.agg #[.int .u64 t0, .int .u64 t1, .int .u64 t2, .int .u64 t3, .int .u64 t4, .int .u64 t5], .int .i64 eT]) := by
      by_cases x : mte s q m g = 0
      · exact ⟨s, q, m, g, m, g, 0, Or.inl ⟨rfl, rfl, rfl, rfl, rfl, rfl, rfl⟩, x, by rw [x, if_pos rfl]⟩
      · exact ⟨0, 0, 0, 0, 0, 0, mte s q m g, Or.inr ⟨x, rfl, rfl, rfl, rfl, rfl, rfl⟩, rfl, by rw [if_neg x]⟩
    have HXe : Hid (¬ (eO ≠ 0)) := Lib.hid (by rw [← hN1.1]; exact fun h => h hX)
    have HYe : Hid (¬ (eT ≠ 0)) := Lib.hid (by rw [← hN2.1]; exact fun h => h hY)
    clear hX hY
    rw [hN1.2] at N1
    rw [hN1.1] at M1
    rw [hN2.2] at N2
    rw [hN2.1] at M2
    clear hN1 hN2
    go_enter Try.func3, Try.ntmps3
    go_wp2_with fail
    refine cl_gen ?_
    intro v0 hv0
    have XB : Below w.heap.size w v0 := by
      rw [hv0]
      (repeat' (first | (with_reducible exact Below.refl _ _) | (with_reducible assumption) | (with_reducible refine below_drewN _ ?_) | (with_reducible refine Below.drew ?_) | (with_reducible refine Below.setCell ?_ (by simp) _) | (with_reducible refine Below.alloc ?_ (by simp; try omega) _)))
    have Xc : v0.heap[w.heap.size]? = some (.cells #[.int .u64 r, .int .u64 n, .int .u64 f, .int .u64 a, .int .u64 b] 24 (0, 0)) := by
      rw [hv0]
      (repeat' (first | (with_reducible exact heap_alloc_new _ _) | (with_reducible exact blk_new (by first | (simp; done) | omega)) | (with_reducible refine blk_drew ?_) | (with_reducible apply put5_0) | (with_reducible apply put5_1) | (with_reducible apply put5_2) | (with_reducible apply put5_3) | (with_reducible apply put5_4) | (with_reducible refine blk_else (by omega) ?_) | (with_reducible refine blk_old ?_)))
    have Xd : v0.heap[w.heap.size + 1]? = some (.cells #[.int .u64 s, .int .u64 q, .int .u64 m, .int .u64 g, .int .u64 c, .int .u64 d] 26 (0, 0)) := by
      rw [hv0]
      (repeat' (first | (with_reducible exact heap_alloc_new _ _) | (with_reducible exact blk_new (by first | (simp; done) | omega)) | (with_reducible refine blk_drew ?_) | (with_reducible apply put6_0) | (with_reducible apply put6_1) | (with_reducible apply put6_2) | (with_reducible apply put6_3) | (with_reducible apply put6_4) | (with_reducible apply put6_5) | (with_reducible refine blk_else (by omega) ?_) | (with_reducible refine blk_old ?_)))
    obtain ⟨Bd, hBd⟩ : ∃ x, x = w.heap.size + 1 := ⟨_, rfl⟩
    rw [← hBd] at Xd
    try rw [← hBd]
    have led : w.heap.size ≤ Bd := by omega
    obtain ⟨Bc, hBc⟩ : ∃ x, x = w.heap.size := ⟨_, rfl⟩
    rw [← hBc] at Xc
    try rw [← hBc]
    have ncd : ¬ Bc = Bd := by omega
    have ndc : ¬ Bd = Bc := fun h => ncd h.symm
    have lec : w.heap.size ≤ Bc := by omega
    clear hBc hBd
    clear hv0
    refine (N1.out _).mono ?_
    rintro e w1 ⟨rfl, bb⟩
    have Hd1 := Lib.hid (blk_call bb Xd)
    have Hc1 := Lib.hid (blk_call bb Xc)
    have HB1 := Lib.hid (bel_onto XB bb XB.size)
    clear Xd Xc XB bb
    obtain ⟨d0_, d1_, d2_, d3_, d4_, d5_, df0_, df1_, df2_, df3_, df4_, df5_⟩ := at6 Hd1.out
    have dn_ := ne_blk Hd1.out
    have dm_ := Ne.symm (a := Bd) dn_
    have dl_ := lt_blk Hd1.out
    obtain ⟨c0_, c1_, c2_, c3_, c4_, cf0_, cf1_, cf2_, cf3_, cf4_⟩ := at5 Hc1.out
    have cn_ := ne_blk Hc1.out
    have cm_ := Ne.symm (a := Bc) cn_
    have cl_ := lt_blk Hc1.out
    go_wp2_with fail
    refine cl_gen ?_
    intro v1 hv1
    have Xd : v1.heap[Bd]? = some (.cells #[.int .u64 s, .int .u64 q, .int .u64 m, .int .u64 g, .int .u64 c, .int .u64 d] 26 (0, 0)) := by
      rw [hv1]
      (repeat' (first | (with_reducible exact Hd1.out) | (with_reducible exact heap_alloc_new _ _) | (with_reducible exact blk_new (by first | (simp; done) | omega)) | (with_reducible refine blk_drew ?_) | (with_reducible apply put6_0) | (with_reducible apply put6_1) | (with_reducible apply put6_2) | (with_reducible apply put6_3) | (with_reducible apply put6_4) | (with_reducible apply put6_5) | (with_reducible refine blk_else (by omega) ?_) | (with_reducible refine blk_old ?_)))
    have Xc : v1.heap[Bc]? = some (.cells #[.int .u64 r, .int .u64 n, .int .u64 f, .int .u64 a, .int .u64 b] 24 (0, 0)) := by
      rw [hv1]
      (repeat' (first | (with_reducible exact Hc1.out) | (with_reducible exact heap_alloc_new _ _) | (with_reducible exact blk_new (by first | (simp; done) | omega)) | (with_reducible refine blk_drew ?_) | (with_reducible apply put5_0) | (with_reducible apply put5_1) | (with_reducible apply put5_2) | (with_reducible apply put5_3) | (with_reducible apply put5_4) | (with_reducible refine blk_else (by omega) ?_) | (with_reducible refine blk_old ?_)))
    have XB : Below w.heap.size w v1 := by
      rw [hv1]
      (repeat' (first | (with_reducible exact HB1.out) | (with_reducible exact Below.refl _ _) | (with_reducible refine below_drewN _ ?_) | (with_reducible refine Below.drew ?_) | (with_reducible refine Below.setCell ?_ (by first | (simp; done) | omega) _) | (with_reducible refine Below.alloc ?_ (by have := HB1.out.size; simp; omega) _)))
    have Xo : v1.heap[w1.heap.size]? = some (.cells #[.int .u64 o0, .int .u64 o1, .int .u64 o2, .int .u64 o3, .int .u64 o4] 29 (0, 0)) := by
      rw [hv1]
      (repeat' (first | (with_reducible exact heap_alloc_new _ _) | (with_reducible exact blk_new (by first | (simp; done) | omega)) | (with_reducible refine blk_drew ?_) | (with_reducible apply put5_0) | (with_reducible apply put5_1) | (with_reducible apply put5_2) | (with_reducible apply put5_3) | (with_reducible apply put5_4) | (with_reducible refine blk_else (by omega) ?_) | (with_reducible refine blk_old ?_)))
    obtain ⟨Bo, hBo⟩ : ∃ x, x = w1.heap.size := ⟨_, rfl⟩
    rw [← hBo] at Xo
    try rw [← hBo]
    have nod : ¬ Bo = Bd := by have := lt_blk Hd1.out; omega
    have ndo : ¬ Bd = Bo := fun h => nod h.symm
    have noc : ¬ Bo = Bc := by have := lt_blk Hc1.out; omega
    have nco : ¬ Bc = Bo := fun h => noc h.symm
    have leo : w.heap.size ≤ Bo := by have := HB1.out.size; omega
    clear hBo
    clear d0_ d1_ d2_ d3_ d4_ d5_ df0_ df1_ df2_ df3_ df4_ df5_ dn_ dm_ dl_ c0_ c1_ c2_ c3_ c4_ cf0_ cf1_ cf2_ cf3_ cf4_ cn_ cm_ cl_
    clear hv1 Hd1 Hc1 HB1
    refine (M1.out _).mono ?_
    rintro e w2 ⟨rfl, bb⟩
    have Hd2 := Lib.hid (blk_call bb Xd)
    have Hc2 := Lib.hid (blk_call bb Xc)
    have Ho2 := Lib.hid (blk_call bb Xo)
    have HB2 := Lib.hid (bel_onto XB bb XB.size)
    clear Xd Xc Xo XB bb
    obtain ⟨d0_, d1_, d2_, d3_, d4_, d5_, df0_, df1_, df2_, df3_, df4_, df5_⟩ := at6 Hd2.out
    have dn_ := ne_blk Hd2.out
    have dm_ := Ne.symm (a := Bd) dn_
    have dl_ := lt_blk Hd2.out
    obtain ⟨c0_, c1_, c2_, c3_, c4_, cf0_, cf1_, cf2_, cf3_, cf4_⟩ := at5 Hc2.out
    have cn_ := ne_blk Hc2.out
    have cm_ := Ne.symm (a := Bc) cn_
    have cl_ := lt_blk Hc2.out
    obtain ⟨o0_, o1_, o2_, o3_, o4_, of0_, of1_, of2_, of3_, of4_⟩ := at5 Ho2.out
    have on_ := ne_blk Ho2.out
    have om_ := Ne.symm (a := Bo) on_
    have ol_ := lt_blk Ho2.out
    go_wp2_with fail
    refine cl_gen ?_
    intro v2 hv2
    have Xd : v2.heap[Bd]? = some (.cells #[.int .u64 s, .int .u64 q, .int .u64 m, .int .u64 g, .int .u64 c, .int .u64 d] 26 (0, 0)) := by
      rw [hv2]
      (repeat' (first | (with_reducible exact Hd2.out) | (with_reducible exact heap_alloc_new _ _) | (with_reducible exact blk_new (by first | (simp; done) | omega)) | (with_reducible refine blk_drew ?_) | (with_reducible apply put6_0) | (with_reducible apply put6_1) | (with_reducible apply put6_2) | (with_reducible apply put6_3) | (with_reducible apply put6_4) | (with_reducible apply put6_5) | (with_reducible refine blk_else (by omega) ?_) | (with_reducible refine blk_old ?_)))
    have Xc : v2.heap[Bc]? = some (.cells #[.int .u64 r, .int .u64 n, .int .u64 f, .int .u64 a, .int .u64 b] 24 (0, 0)) := by
      rw [hv2]
      (repeat' (first | (with_reducible exact Hc2.out) | (with_reducible exact heap_alloc_new _ _) | (with_reducible exact blk_new (by first | (simp; done) | omega)) | (with_reducible refine blk_drew ?_) | (with_reducible apply put5_0) | (with_reducible apply put5_1) | (with_reducible apply put5_2) | (with_reducible apply put5_3) | (with_reducible apply put5_4) | (with_reducible refine blk_else (by omega) ?_) | (with_reducible refine blk_old ?_)))
    have Xo : v2.heap[Bo]? = some (.cells #[.int .u64 o0, .int .u64 o1, .int .u64 o2, .int .u64 o3, .int .u64 o4] 29 (0, 0)) := by
      rw [hv2]
      (repeat' (first | (with_reducible exact Ho2.out) | (with_reducible exact heap_alloc_new _ _) | (with_reducible exact blk_new (by first | (simp; done) | omega)) | (with_reducible refine blk_drew ?_) | (with_reducible apply put5_0) | (with_reducible apply put5_1) | (with_reducible apply put5_2) | (with_reducible apply put5_3) | (with_reducible apply put5_4) | (with_reducible refine blk_else (by omega) ?_) | (with_reducible refine blk_old ?_)))
    have XB : Below w.heap.size w v2 := by
      rw [hv2]
      (repeat' (first | (with_reducible exact HB2.out) | (with_reducible exact Below.refl _ _) | (with_reducible refine below_drewN _ ?_) | (with_reducible refine Below.drew ?_) | (with_reducible refine Below.setCell ?_ (by first | (simp; done) | omega) _) | (with_reducible refine Below.alloc ?_ (by have := HB2.out.size; simp; omega) _)))
    clear d0_ d1_ d2_ d3_ d4_ d5_ df0_ df1_ df2_ df3_ df4_ df5_ dn_ dm_ dl_ c0_ c1_ c2_ c3_ c4_ cf0_ cf1_ cf2_ cf3_ cf4_ cn_ cm_ cl_ o0_ o1_ o2_ o3_ o4_ of0_ of1_ of2_ of3_ of4_ on_ om_ ol_
    clear hv2 Hd2 Hc2 Ho2 HB2
    refine (N2.out _).mono ?_
    rintro e w3 ⟨rfl, bb⟩
    have Hd3 := Lib.hid (blk_call bb Xd)
    have Hc3 := Lib.hid (blk_call bb Xc)
    have Ho3 := Lib.hid (blk_call bb Xo)
    have HB3 := Lib.hid (bel_onto XB bb XB.size)
    clear Xd Xc Xo XB bb
    obtain ⟨d0_, d1_, d2_, d3_, d4_, d5_, df0_, df1_, df2_, df3_, df4_, df5_⟩ := at6 Hd3.out
    have dn_ := ne_blk Hd3.out
    have dm_ := Ne.symm (a := Bd) dn_
    have dl_ := lt_blk Hd3.out
    obtain ⟨c0_, c1_, c2_, c3_, c4_, cf0_, cf1_, cf2_, cf3_, cf4_⟩ := at5 Hc3.out
    have cn_ := ne_blk Hc3.out
    have cm_ := Ne.symm (a := Bc) cn_
    have cl_ := lt_blk Hc3.out
    obtain ⟨o0_, o1_, o2_, o3_, o4_, of0_, of1_, of2_, of3_, of4_⟩ := at5 Ho3.out
    have on_ := ne_blk Ho3.out
    have om_ := Ne.symm (a := Bo) on_
    have ol_ := lt_blk Ho3.out
    go_wp2_with fail
    refine cl_gen ?_
    intro v3 hv3
    have Xd : v3.heap[Bd]? = some (.cells #[.int .u64 s, .int .u64 q, .int .u64 m, .int .u64 g, .int .u64 c, .int .u64 d] 26 (0, 0)) := by
      rw [hv3]
      (repeat' (first | (with_reducible exact Hd3.out) | (with_reducible exact heap_alloc_new _ _) | (with_reducible exact blk_new (by first | (simp; done) | omega)) | (with_reducible refine blk_drew ?_) | (with_reducible apply put6_0) | (with_reducible apply put6_1) | (with_reducible apply put6_2) | (with_reducible apply put6_3) | (with_reducible apply put6_4) | (with_reducible apply put6_5) | (with_reducible refine blk_else (by omega) ?_) | (with_reducible refine blk_old ?_)))
    have Xc : v3.heap[Bc]? = some (.cells #[.int .u64 r, .int .u64 n, .int .u64 f, .int .u64 a, .int .u64 b] 24 (0, 0)) := by
      rw [hv3]
      (repeat' (first | (with_reducible exact Hc3.out) | (with_reducible exact heap_alloc_new _ _) | (with_reducible exact blk_new (by first | (simp; done) | omega)) | (with_reducible refine blk_drew ?_) | (with_reducible apply put5_0) | (with_reducible apply put5_1) | (with_reducible apply put5_2) | (with_reducible apply put5_3) | (with_reducible apply put5_4) | (with_reducible refine blk_else (by omega) ?_) | (with_reducible refine blk_old ?_)))
    have Xo : v3.heap[Bo]? = some (.cells #[.int .u64 o0, .int .u64 o1, .int .u64 o2, .int .u64 o3, .int .u64 o4] 29 (0, 0)) := by
      rw [hv3]
      (repeat' (first | (with_reducible exact Ho3.out) | (with_reducible exact heap_alloc_new _ _) | (with_reducible exact blk_new (by first | (simp; done) | omega)) | (with_reducible refine blk_drew ?_) | (with_reducible apply put5_0) | (with_reducible apply put5_1) | (with_reducible apply put5_2) | (with_reducible apply put5_3) | (with_reducible apply put5_4) | (with_reducible refine blk_else (by omega) ?_) | (with_reducible refine blk_old ?_)))
    have XB : Below w.heap.size w v3 := by
      rw [hv3]
      (repeat' (first | (with_reducible exact HB3.out) | (with_reducible exact Below.refl _ _) | (with_reducible refine below_drewN _ ?_) | (with_reducible refine Below.drew ?_) | (with_reducible refine Below.setCell ?_ (by first | (simp; done) | omega) _) | (with_reducible refine Below.alloc ?_ (by have := HB3.out.size; simp; omega) _)))
    have Xk : v3.heap[w3.heap.size]? = some (.cells #[.int .u64 t0, .int .u64 t1, .int .u64 t2, .int .u64 t3, .int .u64 t4, .int .u64 t5] 34 (0, 0)) := by
      rw [hv3]
      (repeat' (first | (with_reducible exact heap_alloc_new _ _) | (with_reducible exact blk_new (by first | (simp; done) | omega)) | (with_reducible refine blk_drew ?_) | (with_reducible apply put6_0) | (with_reducible apply put6_1) | (with_reducible apply put6_2) | (with_reducible apply put6_3) | (with_reducible apply put6_4) | (with_reducible apply put6_5) | (with_reducible refine blk_else (by omega) ?_) | (with_reducible refine blk_old ?_)))
    obtain ⟨Bk, hBk⟩ : ∃ x, x = w3.heap.size := ⟨_, rfl⟩
    rw [← hBk] at Xk
    try rw [← hBk]
    have nkd : ¬ Bk = Bd := by have := lt_blk Hd3.out; omega
    have ndk : ¬ Bd = Bk := fun h => nkd h.symm
    have nkc : ¬ Bk = Bc := by have := lt_blk Hc3.out; omega
    have nck : ¬ Bc = Bk := fun h => nkc h.symm
    have nko : ¬ Bk = Bo := by have := lt_blk Ho3.out; omega
    have nok : ¬ Bo = Bk := fun h => nko h.symm
    have lek : w.heap.size ≤ Bk := by have := HB3.out.size; omega
    clear hBk
    clear d0_ d1_ d2_ d3_ d4_ d5_ df0_ df1_ df2_ df3_ df4_ df5_ dn_ dm_ dl_ c0_ c1_ c2_ c3_ c4_ cf0_ cf1_ cf2_ cf3_ cf4_ cn_ cm_ cl_ o0_ o1_ o2_ o3_ o4_ of0_ of1_ of2_ of3_ of4_ on_ om_ ol_
    clear hv3 Hd3 Hc3 Ho3 HB3
    refine (M2.out _).mono ?_
    rintro e w4 ⟨rfl, bb⟩
    have Hd4 := Lib.hid (blk_call bb Xd)
    have Hc4 := Lib.hid (blk_call bb Xc)
    have Ho4 := Lib.hid (blk_call bb Xo)
    have Hk4 := Lib.hid (blk_call bb Xk)
    have HB4 := Lib.hid (bel_onto XB bb XB.size)
    clear Xd Xc Xo Xk XB bb
    obtain ⟨d0_, d1_, d2_, d3_, d4_, d5_, df0_, df1_, df2_, df3_, df4_, df5_⟩ := at6 Hd4.out
    have dn_ := ne_blk Hd4.out
    have dm_ := Ne.symm (a := Bd) dn_
    have dl_ := lt_blk Hd4.out
    obtain ⟨c0_, c1_, c2_, c3_, c4_, cf0_, cf1_, cf2_, cf3_, cf4_⟩ := at5 Hc4.out
    have cn_ := ne_blk Hc4.out
    have cm_ := Ne.symm (a := Bc) cn_
    have cl_ := lt_blk Hc4.out
    obtain ⟨o0_, o1_, o2_, o3_, o4_, of0_, of1_, of2_, of3_, of4_⟩ := at5 Ho4.out
    have on_ := ne_blk Ho4.out
    have om_ := Ne.symm (a := Bo) on_
    have ol_ := lt_blk Ho4.out
    obtain ⟨k0_, k1_, k2_, k3_, k4_, k5_, kf0_, kf1_, kf2_, kf3_, kf4_, kf5_⟩ := at6 Hk4.out
    have kn_ := ne_blk Hk4.out
    have km_ := Ne.symm (a := Bk) kn_
    have kl_ := lt_blk Hk4.out
    go_upto_region 7 with (fail)
    refine wp_genc ?_
    intro v4 hv4
    have Xd : v4.heap[Bd]? = some (.cells #[.int .u64 s, .int .u64 q, .int .u64 m, .int .u64 g, .int .u64 c, .int .u64 d] 26 (0, 0)) := by
      rw [hv4]
      (repeat' (first | (with_reducible exact Hd4.out) | (with_reducible exact heap_alloc_new _ _) | (with_reducible exact blk_new (by first | (simp; done) | omega)) | (with_reducible refine blk_drew ?_) | (with_reducible apply put6_0) | (with_reducible apply put6_1) | (with_reducible apply put6_2) | (with_reducible apply put6_3) | (with_reducible apply put6_4) | (with_reducible apply put6_5) | (with_reducible refine blk_else (by omega) ?_) | (with_reducible refine blk_old ?_)))
    have Xc : v4.heap[Bc]? = some (.cells #[.int .u64 r, .int .u64 n, .int .u64 f, .int .u64 a, .int .u64 b] 24 (0, 0)) := by
      rw [hv4]
      (repeat' (first | (with_reducible exact Hc4.out) | (with_reducible exact heap_alloc_new _ _) | (with_reducible exact blk_new (by first | (simp; done) | omega)) | (with_reducible refine blk_drew ?_) | (with_reducible apply put5_0) | (with_reducible apply put5_1) | (with_reducible apply put5_2) | (with_reducible apply put5_3) | (with_reducible apply put5_4) | (with_reducible refine blk_else (by omega) ?_) | (with_reducible refine blk_old ?_)))
    have Xo : v4.heap[Bo]? = some (.cells #[.int .u64 o0, .int .u64 o1, .int .u64 o2, .int .u64 o3, .int .u64 o4] 29 (0, 0)) := by
      rw [hv4]
      (repeat' (first | (with_reducible exact Ho4.out) | (with_reducible exact heap_alloc_new _ _) | (with_reducible exact blk_new (by first | (simp; done) | omega)) | (with_reducible refine blk_drew ?_) | (with_reducible apply put5_0) | (with_reducible apply put5_1) | (with_reducible apply put5_2) | (with_reducible apply put5_3) | (with_reducible apply put5_4) | (with_reducible refine blk_else (by omega) ?_) | (with_reducible refine blk_old ?_)))
    have Xk : v4.heap[Bk]? = some (.cells #[.int .u64 t0, .int .u64 t1, .int .u64 t2, .int .u64 t3, .int .u64 t4, .int .u64 t5] 34 (0, 0)) := by
      rw [hv4]
      (repeat' (first | (with_reducible exact Hk4.out) | (with_reducible exact heap_alloc_new _ _) | (with_reducible exact blk_new (by first | (simp; done) | omega)) | (with_reducible refine blk_drew ?_) | (with_reducible apply put6_0) | (with_reducible apply put6_1) | (with_reducible apply put6_2) | (with_reducible apply put6_3) | (with_reducible apply put6_4) | (with_reducible apply put6_5) | (with_reducible refine blk_else (by omega) ?_) | (with_reducible refine blk_old ?_)))
    have XB : Below w.heap.size w v4 := by
      rw [hv4]
      (repeat' (first | (with_reducible exact HB4.out) | (with_reducible exact Below.refl _ _) | (with_reducible refine below_drewN _ ?_) | (with_reducible refine Below.drew ?_) | (with_reducible refine Below.setCell ?_ (by first | (simp; done) | omega) _) | (with_reducible refine Below.alloc ?_ (by have := HB4.out.size; simp; omega) _)))
    clear d0_ d1_ d2_ d3_ d4_ d5_ df0_ df1_ df2_ df3_ df4_ df5_ dn_ dm_ dl_ c0_ c1_ c2_ c3_ c4_ cf0_ cf1_ cf2_ cf3_ cf4_ cn_ cm_ cl_ o0_ o1_ o2_ o3_ o4_ of0_ of1_ of2_ of3_ of4_ on_ om_ ol_ k0_ k1_ k2_ k3_ k4_ k5_ kf0_ kf1_ kf2_ kf3_ kf4_ kf5_ kn_ km_ kl_
    clear hv4 Hd4 Hc4 Ho4 Hk4 HB4
    have Hd5 := Lib.hid Xd
    have Hc5 := Lib.hid Xc
    have Ho5 := Lib.hid Xo
    have Hk5 := Lib.hid Xk
    have HB5 := Lib.hid XB
    clear Xd Xc Xo Xk XB
    obtain ⟨d0_, d1_, d2_, d3_, d4_, d5_, df0_, df1_, df2_, df3_, df4_, df5_⟩ := at6 Hd5.out
    have dn_ := ne_blk Hd5.out
    have dm_ := Ne.symm (a := Bd) dn_
    have dl_ := lt_blk Hd5.out
    obtain ⟨c0_, c1_, c2_, c3_, c4_, cf0_, cf1_, cf2_, cf3_, cf4_⟩ := at5 Hc5.out
    have cn_ := ne_blk Hc5.out
    have cm_ := Ne.symm (a := Bc) cn_
    have cl_ := lt_blk Hc5.out
    obtain ⟨o0_, o1_, o2_, o3_, o4_, of0_, of1_, of2_, of3_, of4_⟩ := at5 Ho5.out
    have on_ := ne_blk Ho5.out
    have om_ := Ne.symm (a := Bo) on_
    have ol_ := lt_blk Ho5.out
    obtain ⟨k0_, k1_, k2_, k3_, k4_, k5_, kf0_, kf1_, kf2_, kf3_, kf4_, kf5_⟩ := at6 Hk5.out
    have kn_ := ne_blk Hk5.out
    have km_ := Ne.symm (a := Bk) kn_
    have kl_ := lt_blk Hk5.out
    go_cut [136] (fun e136 wx => e136 = .bool false ∧ wx.heap[Bc]? = some (.cells #[.int .u64 r, .int .u64 n, .int .u64 f, .int .u64 a, .int .u64 b] 24 (0, 0)) ∧ wx.heap[Bd]? = some (.cells #[.int .u64 s, .int .u64 q, .int .u64 m, .int .u64 g, .int .u64 c, .int .u64 d] 26 (0, 0)) ∧ wx.heap[Bo]? = some (.cells #[.int .u64 o0, .int .u64 o1, .int .u64 o2, .int .u64 o3, .int .u64 o4] 29 (0, 0)) ∧ wx.heap[Bk]? = some (.cells #[.int .u64 t0, .int .u64 t1, .int .u64 t2, .int .u64 t3, .int .u64 t4, .int .u64 t5] 34 (0, 0)) ∧ Below w.heap.size w wx)
    case first =>
      rcases hB with ⟨hO, e0_, e1_, e2_, e3_, e4_⟩ | ⟨hO, e0_, e1_, e2_, e3_, e4_⟩ <;> rcases hC with ⟨hT, d0_, d1_, d2_, d3_, d4_, d5_⟩ | ⟨hT, d0_, d1_, d2_, d3_, d4_, d5_⟩
      · subst hO
        subst hT
        subst e0_ e1_ e2_ e3_ e4_ d0_ d1_ d2_ d3_ d4_ d5_
        refine wp_region_lit ?_
        refine list_val (v := ?_) (by rfl) ?_ ?_
        rotate_left 1
        · go_simp
          try with_reducible rfl
        try simp only [List.getElem_toArray, List.getElem_cons_succ, List.getElem_cons_zero, Act.put, List.setIfInBounds_toArray, List.set_cons_zero, List.set_cons_succ]
        refine list_val (v := ?_) (by rfl) ?_ ?_
        rotate_left 1
        · go_simp
          try with_reducible rfl
        try simp only [List.getElem_toArray, List.getElem_cons_succ, List.getElem_cons_zero, Act.put, List.setIfInBounds_toArray, List.set_cons_zero, List.set_cons_succ]
        refine list_val (v := .bool false) (by rfl) ?_ ?_
        · go_simp
        try simp only [List.getElem_toArray, List.getElem_cons_succ, List.getElem_cons_zero, Act.put, List.setIfInBounds_toArray, List.set_cons_zero, List.set_cons_succ]
        refine list_val (v := .bool false) (by rfl) ?_ ?_
        · go_simp
        try simp only [List.getElem_toArray, List.getElem_cons_succ, List.getElem_cons_zero, Act.put, List.setIfInBounds_toArray, List.set_cons_zero, List.set_cons_succ]
        refine list_val (v := ?_) (by rfl) ?_ ?_
        rotate_left 1
        · go_simp
          try with_reducible rfl
        try simp only [List.getElem_toArray, List.getElem_cons_succ, List.getElem_cons_zero, Act.put, List.setIfInBounds_toArray, List.set_cons_zero, List.set_cons_succ]
        refine list_val (v := ?_) (by rfl) ?_ ?_
        rotate_left 1
        · go_simp
          try with_reducible rfl
        try simp only [List.getElem_toArray, List.getElem_cons_succ, List.getElem_cons_zero, Act.put, List.setIfInBounds_toArray, List.set_cons_zero, List.set_cons_succ]
        refine list_val (v := .bool false) (by rfl) ?_ ?_
        · go_simp
        try simp only [List.getElem_toArray, List.getElem_cons_succ, List.getElem_cons_zero, Act.put, List.setIfInBounds_toArray, List.set_cons_zero, List.set_cons_succ]
        refine list_val (v := .bool false) (by rfl) ?_ ?_
        · go_simp
        try simp only [List.getElem_toArray, List.getElem_cons_succ, List.getElem_cons_zero, Act.put, List.setIfInBounds_toArray, List.set_cons_zero, List.set_cons_succ]
        refine list_val (v := .bool false) (by rfl) ?_ ?_
        · go_simp
        try simp only [List.getElem_toArray, List.getElem_cons_succ, List.getElem_cons_zero, Act.put, List.setIfInBounds_toArray, List.set_cons_zero, List.set_cons_succ]
        refine list_val (v := ?_) (by rfl) ?_ ?_
        rotate_left 1
        · go_simp
          try with_reducible rfl
        try simp only [List.getElem_toArray, List.getElem_cons_succ, List.getElem_cons_zero, Act.put, List.setIfInBounds_toArray, List.set_cons_zero, List.set_cons_succ]
        refine list_val (v := .bool true) (by rfl) ?_ ?_
        · go_simp
        try simp only [List.getElem_toArray, List.getElem_cons_succ, List.getElem_cons_zero, Act.put, List.setIfInBounds_toArray, List.set_cons_zero, List.set_cons_succ]
        refine list_val (v := .bool true) (by rfl) ?_ ?_
        · go_simp
        try simp only [List.getElem_toArray, List.getElem_cons_succ, List.getElem_cons_zero, Act.put, List.setIfInBounds_toArray, List.set_cons_zero, List.set_cons_succ]
        refine list_val (v := ?_) (by rfl) ?_ ?_
        rotate_left 1
        · go_simp
          try with_reducible rfl
        try simp only [List.getElem_toArray, List.getElem_cons_succ, List.getElem_cons_zero, Act.put, List.setIfInBounds_toArray, List.set_cons_zero, List.set_cons_succ]
        refine list_val (v := ?_) (by rfl) ?_ ?_
        rotate_left 1
        · go_simp
          try with_reducible rfl
        try simp only [List.getElem_toArray, List.getElem_cons_succ, List.getElem_cons_zero, Act.put, List.setIfInBounds_toArray, List.set_cons_zero, List.set_cons_succ]
        refine list_val (v := ?_) (by rfl) ?_ ?_
        rotate_left 1
        · go_simp
          try with_reducible rfl
        try simp only [List.getElem_toArray, List.getElem_cons_succ, List.getElem_cons_zero, Act.put, List.setIfInBounds_toArray, List.set_cons_zero, List.set_cons_succ]
        refine list_val (v := ?_) (by rfl) ?_ ?_
        rotate_left 1
        · go_simp
          try with_reducible rfl
        try simp only [List.getElem_toArray, List.getElem_cons_succ, List.getElem_cons_zero, Act.put, List.setIfInBounds_toArray, List.set_cons_zero, List.set_cons_succ]
        refine list_val (v := ?_) (by rfl) ?_ ?_
        rotate_left 1
        · go_simp
          try with_reducible rfl
        try simp only [List.getElem_toArray, List.getElem_cons_succ, List.getElem_cons_zero, Act.put, List.setIfInBounds_toArray, List.set_cons_zero, List.set_cons_succ]
        refine list_val (v := ?_) (by rfl) ?_ ?_
        rotate_left 1
        · go_simp
          try with_reducible rfl
        try simp only [List.getElem_toArray, List.getElem_cons_succ, List.getElem_cons_zero, Act.put, List.setIfInBounds_toArray, List.set_cons_zero, List.set_cons_succ]
        refine list_val (v := ?_) (by rfl) ?_ ?_
        rotate_left 1
        · go_simp
          try with_reducible rfl
        try simp only [List.getElem_toArray, List.getElem_cons_succ, List.getElem_cons_zero, Act.put, List.setIfInBounds_toArray, List.set_cons_zero, List.set_cons_succ]
        refine list_val (v := ?_) (by rfl) ?_ ?_
        rotate_left 1
        · go_simp
          try with_reducible rfl
        try simp only [List.getElem_toArray, List.getElem_cons_succ, List.getElem_cons_zero, Act.put, List.setIfInBounds_toArray, List.set_cons_zero, List.set_cons_succ]
        refine list_val (v := ?_) (by rfl) ?_ ?_
        rotate_left 1
        · go_simp
          try with_reducible rfl
        try simp only [List.getElem_toArray, List.getElem_cons_succ, List.getElem_cons_zero, Act.put, List.setIfInBounds_toArray, List.set_cons_zero, List.set_cons_succ]
        refine list_val (v := ?_) (by rfl) ?_ ?_
        rotate_left 1
        · go_simp
          try with_reducible rfl
        try simp only [List.getElem_toArray, List.getElem_cons_succ, List.getElem_cons_zero, Act.put, List.setIfInBounds_toArray, List.set_cons_zero, List.set_cons_succ]
        refine list_val (v := ?_) (by rfl) ?_ ?_
        rotate_left 1
        · go_simp
          try with_reducible rfl
        try simp only [List.getElem_toArray, List.getElem_cons_succ, List.getElem_cons_zero, Act.put, List.setIfInBounds_toArray, List.set_cons_zero, List.set_cons_succ]
        refine list_val (v := ?_) (by rfl) ?_ ?_
        rotate_left 1
        · go_simp
          try with_reducible rfl
        try simp only [List.getElem_toArray, List.getElem_cons_succ, List.getElem_cons_zero, Act.put, List.setIfInBounds_toArray, List.set_cons_zero, List.set_cons_succ]
        refine list_val (v := .bool false) (by rfl) ?_ ?_
        · go_simp
        try simp only [List.getElem_toArray, List.getElem_cons_succ, List.getElem_cons_zero, Act.put, List.setIfInBounds_toArray, List.set_cons_zero, List.set_cons_succ]
        refine list_val (v := .bool false) (by rfl) ?_ ?_
        · go_simp
        try simp only [List.getElem_toArray, List.getElem_cons_succ, List.getElem_cons_zero, Act.put, List.setIfInBounds_toArray, List.set_cons_zero, List.set_cons_succ]
        refine list_val (v := .bool false) (by rfl) ?_ ?_
        · go_simp
        try simp only [List.getElem_toArray, List.getElem_cons_succ, List.getElem_cons_zero, Act.put, List.setIfInBounds_toArray, List.set_cons_zero, List.set_cons_succ]
        refine list_val (v := .bool false) (by rfl) ?_ ?_
        · go_simp
        try simp only [List.getElem_toArray, List.getElem_cons_succ, List.getElem_cons_zero, Act.put, List.setIfInBounds_toArray, List.set_cons_zero, List.set_cons_succ]
        refine list_val (v := ?_) (by rfl) ?_ ?_
        rotate_left 1
        · go_simp
          try with_reducible rfl
        try simp only [List.getElem_toArray, List.getElem_cons_succ, List.getElem_cons_zero, Act.put, List.setIfInBounds_toArray, List.set_cons_zero, List.set_cons_succ]
        refine list_val (v := .bool false) (by rfl) ?_ ?_
        · go_simp
        try simp only [List.getElem_toArray, List.getElem_cons_succ, List.getElem_cons_zero, Act.put, List.setIfInBounds_toArray, List.set_cons_zero, List.set_cons_succ]
        refine list_val (v := .bool false) (by rfl) ?_ ?_
        · go_simp
        try simp only [List.getElem_toArray, List.getElem_cons_succ, List.getElem_cons_zero, Act.put, List.setIfInBounds_toArray, List.set_cons_zero, List.set_cons_succ]
        refine list_un (by rfl) ?_
        try simp only [List.getElem_toArray, List.getElem_cons_succ, List.getElem_cons_zero, Act.put, List.setIfInBounds_toArray, List.set_cons_zero, List.set_cons_succ]
        refine list_un (by rfl) ?_
        try simp only [List.getElem_toArray, List.getElem_cons_succ, List.getElem_cons_zero, Act.put, List.setIfInBounds_toArray, List.set_cons_zero, List.set_cons_succ]
        refine list_un (by rfl) ?_
        try simp only [List.getElem_toArray, List.getElem_cons_succ, List.getElem_cons_zero, Act.put, List.setIfInBounds_toArray, List.set_cons_zero, List.set_cons_succ]
        refine list_val (v := .bool false) (by rfl) ?_ ?_
        · go_simp
        try simp only [List.getElem_toArray, List.getElem_cons_succ, List.getElem_cons_zero, Act.put, List.setIfInBounds_toArray, List.set_cons_zero, List.set_cons_succ]
        refine list_val (v := .bool false) (by rfl) ?_ ?_
        · go_simp
        try simp only [List.getElem_toArray, List.getElem_cons_succ, List.getElem_cons_zero, Act.put, List.setIfInBounds_toArray, List.set_cons_zero, List.set_cons_succ]
        refine list_val (v := .bool false) (by rfl) ?_ ?_
        · go_simp
        try simp only [List.getElem_toArray, List.getElem_cons_succ, List.getElem_cons_zero, Act.put, List.setIfInBounds_toArray, List.set_cons_zero, List.set_cons_succ]
        refine list_val (v := ?_) (by rfl) ?_ ?_
        rotate_left 1
        · go_simp
          try with_reducible rfl
        try simp only [List.getElem_toArray, List.getElem_cons_succ, List.getElem_cons_zero, Act.put, List.setIfInBounds_toArray, List.set_cons_zero, List.set_cons_succ]
        refine list_val (v := .bool true) (by rfl) ?_ ?_
        · go_simp
        try simp only [List.getElem_toArray, List.getElem_cons_succ, List.getElem_cons_zero, Act.put, List.setIfInBounds_toArray, List.set_cons_zero, List.set_cons_succ]
        refine list_val (v := .bool true) (by rfl) ?_ ?_
        · go_simp
        try simp only [List.getElem_toArray, List.getElem_cons_succ, List.getElem_cons_zero, Act.put, List.setIfInBounds_toArray, List.set_cons_zero, List.set_cons_succ]
        refine list_val (v := ?_) (by rfl) ?_ ?_
        rotate_left 1
        · go_simp
          try with_reducible rfl
        try simp only [List.getElem_toArray, List.getElem_cons_succ, List.getElem_cons_zero, Act.put, List.setIfInBounds_toArray, List.set_cons_zero, List.set_cons_succ]
        refine list_val (v := ?_) (by rfl) ?_ ?_
        rotate_left 1
        · go_simp
          try with_reducible rfl
        try simp only [List.getElem_toArray, List.getElem_cons_succ, List.getElem_cons_zero, Act.put, List.setIfInBounds_toArray, List.set_cons_zero, List.set_cons_succ]
        refine list_val (v := ?_) (by rfl) ?_ ?_
        rotate_left 1
        · go_simp
          try with_reducible rfl
        try simp only [List.getElem_toArray, List.getElem_cons_succ, List.getElem_cons_zero, Act.put, List.setIfInBounds_toArray, List.set_cons_zero, List.set_cons_succ]
        refine list_val (v := ?_) (by rfl) ?_ ?_
        rotate_left 1
        · go_simp
          try with_reducible rfl
        try simp only [List.getElem_toArray, List.getElem_cons_succ, List.getElem_cons_zero, Act.put, List.setIfInBounds_toArray, List.set_cons_zero, List.set_cons_succ]
        refine list_val (v := ?_) (by rfl) ?_ ?_
        rotate_left 1
        · go_simp
          try with_reducible rfl
        try simp only [List.getElem_toArray, List.getElem_cons_succ, List.getElem_cons_zero, Act.put, List.setIfInBounds_toArray, List.set_cons_zero, List.set_cons_succ]
        refine list_val (v := ?_) (by rfl) ?_ ?_
        rotate_left 1
        · go_simp
          try with_reducible rfl
        try simp only [List.getElem_toArray, List.getElem_cons_succ, List.getElem_cons_zero, Act.put, List.setIfInBounds_toArray, List.set_cons_zero, List.set_cons_succ]
        refine list_val (v := ?_) (by rfl) ?_ ?_
        rotate_left 1
        · go_simp
          try with_reducible rfl
        try simp only [List.getElem_toArray, List.getElem_cons_succ, List.getElem_cons_zero, Act.put, List.setIfInBounds_toArray, List.set_cons_zero, List.set_cons_succ]
        refine list_val (v := ?_) (by rfl) ?_ ?_
        rotate_left 1
        · go_simp
          try with_reducible rfl
        try simp only [List.getElem_toArray, List.getElem_cons_succ, List.getElem_cons_zero, Act.put, List.setIfInBounds_toArray, List.set_cons_zero, List.set_cons_succ]
        refine list_val (v := ?_) (by rfl) ?_ ?_
        rotate_left 1
        · go_simp
          try with_reducible rfl
        try simp only [List.getElem_toArray, List.getElem_cons_succ, List.getElem_cons_zero, Act.put, List.setIfInBounds_toArray, List.set_cons_zero, List.set_cons_succ]
        refine list_val (v := ?_) (by rfl) ?_ ?_
        rotate_left 1
        · go_simp
          try with_reducible rfl
        try simp only [List.getElem_toArray, List.getElem_cons_succ, List.getElem_cons_zero, Act.put, List.setIfInBounds_toArray, List.set_cons_zero, List.set_cons_succ]
        refine list_val (v := ?_) (by rfl) ?_ ?_
        rotate_left 1
        · go_simp
          try with_reducible rfl
        try simp only [List.getElem_toArray, List.getElem_cons_succ, List.getElem_cons_zero, Act.put, List.setIfInBounds_toArray, List.set_cons_zero, List.set_cons_succ]
        refine list_val (v := ?_) (by rfl) ?_ ?_
        rotate_left 1
        · go_simp
          try with_reducible rfl
        try simp only [List.getElem_toArray, List.getElem_cons_succ, List.getElem_cons_zero, Act.put, List.setIfInBounds_toArray, List.set_cons_zero, List.set_cons_succ]
        refine list_val (v := ?_) (by rfl) ?_ ?_
        rotate_left 1
        · go_simp
          try with_reducible rfl
        try simp only [List.getElem_toArray, List.getElem_cons_succ, List.getElem_cons_zero, Act.put, List.setIfInBounds_toArray, List.set_cons_zero, List.set_cons_succ]
        refine list_val (v := ?_) (by rfl) ?_ ?_
        rotate_left 1
        · go_simp
          try with_reducible rfl
        try simp only [List.getElem_toArray, List.getElem_cons_succ, List.getElem_cons_zero, Act.put, List.setIfInBounds_toArray, List.set_cons_zero, List.set_cons_succ]
        refine list_val (v := .bool false) (by rfl) ?_ ?_
        · go_simp
        try simp only [List.getElem_toArray, List.getElem_cons_succ, List.getElem_cons_zero, Act.put, List.setIfInBounds_toArray, List.set_cons_zero, List.set_cons_succ]
        refine list_val (v := .bool false) (by rfl) ?_ ?_
        · go_simp
        try simp only [List.getElem_toArray, List.getElem_cons_succ, List.getElem_cons_zero, Act.put, List.setIfInBounds_toArray, List.set_cons_zero, List.set_cons_succ]
        refine list_val (v := .bool false) (by rfl) ?_ ?_
        · go_simp
        try simp only [List.getElem_toArray, List.getElem_cons_succ, List.getElem_cons_zero, Act.put, List.setIfInBounds_toArray, List.set_cons_zero, List.set_cons_succ]
        refine list_val (v := .bool false) (by rfl) ?_ ?_
        · go_simp
        try simp only [List.getElem_toArray, List.getElem_cons_succ, List.getElem_cons_zero, Act.put, List.setIfInBounds_toArray, List.set_cons_zero, List.set_cons_succ]
        refine list_val (v := ?_) (by rfl) ?_ ?_
        rotate_left 1
        · go_simp
          try with_reducible rfl
        try simp only [List.getElem_toArray, List.getElem_cons_succ, List.getElem_cons_zero, Act.put, List.setIfInBounds_toArray, List.set_cons_zero, List.set_cons_succ]
        refine list_val (v := .bool false) (by rfl) ?_ ?_
        · go_simp
        try simp only [List.getElem_toArray, List.getElem_cons_succ, List.getElem_cons_zero, Act.put, List.setIfInBounds_toArray, List.set_cons_zero, List.set_cons_succ]
        refine list_val (v := .bool false) (by rfl) ?_ ?_
        · go_simp
        try simp only [List.getElem_toArray, List.getElem_cons_succ, List.getElem_cons_zero, Act.put, List.setIfInBounds_toArray, List.set_cons_zero, List.set_cons_succ]
        refine list_un (by rfl) ?_
        try simp only [List.getElem_toArray, List.getElem_cons_succ, List.getElem_cons_zero, Act.put, List.setIfInBounds_toArray, List.set_cons_zero, List.set_cons_succ]
        refine list_un (by rfl) ?_
        try simp only [List.getElem_toArray, List.getElem_cons_succ, List.getElem_cons_zero, Act.put, List.setIfInBounds_toArray, List.set_cons_zero, List.set_cons_succ]
        refine list_un (by rfl) ?_
        try simp only [List.getElem_toArray, List.getElem_cons_succ, List.getElem_cons_zero, Act.put, List.setIfInBounds_toArray, List.set_cons_zero, List.set_cons_succ]
        refine list_val (v := .bool false) (by rfl) ?_ ?_
        · go_simp
        try simp only [List.getElem_toArray, List.getElem_cons_succ, List.getElem_cons_zero, Act.put, List.setIfInBounds_toArray, List.set_cons_zero, List.set_cons_succ]
        refine list_val (v := .bool false) (by rfl) ?_ ?_
        · go_simp
        try simp only [List.getElem_toArray, List.getElem_cons_succ, List.getElem_cons_zero, Act.put, List.setIfInBounds_toArray, List.set_cons_zero, List.set_cons_succ]
        go_wp2
        go_meet
        refine ⟨(by first | rfl | assumption), ?_, ?_, ?_, ?_, ?_⟩
        · (repeat' (first | (with_reducible exact Hc5.out) | (with_reducible exact heap_alloc_new _ _) | (with_reducible exact blk_new (by first | (simp; done) | omega)) | (with_reducible refine blk_drew ?_) | (with_reducible apply put1_0) | (with_reducible apply put2_0) | (with_reducible apply put2_1) | (with_reducible apply put3_0) | (with_reducible apply put3_1) | (with_reducible apply put3_2) | (with_reducible apply put4_0) | (with_reducible apply put4_1) | (with_reducible apply put4_2) | (with_reducible apply put4_3) | (with_reducible apply put5_0) | (with_reducible apply put5_1) | (with_reducible apply put5_2) | (with_reducible apply put5_3) | (with_reducible apply put5_4) | (with_reducible apply put6_0) | (with_reducible apply put6_1) | (with_reducible apply put6_2) | (with_reducible apply put6_3) | (with_reducible apply put6_4) | (with_reducible apply put6_5) | (with_reducible refine blk_else (by omega) ?_) | (with_reducible refine blk_old ?_)))
        · (repeat' (first | (with_reducible exact Hd5.out) | (with_reducible exact heap_alloc_new _ _) | (with_reducible exact blk_new (by first | (simp; done) | omega)) | (with_reducible refine blk_drew ?_) | (with_reducible apply put1_0) | (with_reducible apply put2_0) | (with_reducible apply put2_1) | (with_reducible apply put3_0) | (with_reducible apply put3_1) | (with_reducible apply put3_2) | (with_reducible apply put4_0) | (with_reducible apply put4_1) | (with_reducible apply put4_2) | (with_reducible apply put4_3) | (with_reducible apply put5_0) | (with_reducible apply put5_1) | (with_reducible apply put5_2) | (with_reducible apply put5_3) | (with_reducible apply put5_4) | (with_reducible apply put6_0) | (with_reducible apply put6_1) | (with_reducible apply put6_2) | (with_reducible apply put6_3) | (with_reducible apply put6_4) | (with_reducible apply put6_5) | (with_reducible refine blk_else (by omega) ?_) | (with_reducible refine blk_old ?_)))
        · (repeat' (first | (with_reducible exact Ho5.out) | (with_reducible exact heap_alloc_new _ _) | (with_reducible exact blk_new (by first | (simp; done) | omega)) | (with_reducible refine blk_drew ?_) | (with_reducible apply put1_0) | (with_reducible apply put2_0) | (with_reducible apply put2_1) | (with_reducible apply put3_0) | (with_reducible apply put3_1) | (with_reducible apply put3_2) | (with_reducible apply put4_0) | (with_reducible apply put4_1) | (with_reducible apply put4_2) | (with_reducible apply put4_3) | (with_reducible apply put5_0) | (with_reducible apply put5_1) | (with_reducible apply put5_2) | (with_reducible apply put5_3) | (with_reducible apply put5_4) | (with_reducible apply put6_0) | (with_reducible apply put6_1) | (with_reducible apply put6_2) | (with_reducible apply put6_3) | (with_reducible apply put6_4) | (with_reducible apply put6_5) | (with_reducible refine blk_else (by omega) ?_) | (with_reducible refine blk_old ?_)))
        · (repeat' (first | (with_reducible exact Hk5.out) | (with_reducible exact heap_alloc_new _ _) | (with_reducible exact blk_new (by first | (simp; done) | omega)) | (with_reducible refine blk_drew ?_) | (with_reducible apply put1_0) | (with_reducible apply put2_0) | (with_reducible apply put2_1) | (with_reducible apply put3_0) | (with_reducible apply put3_1) | (with_reducible apply put3_2) | (with_reducible apply put4_0) | (with_reducible apply put4_1) | (with_reducible apply put4_2) | (with_reducible apply put4_3) | (with_reducible apply put5_0) | (with_reducible apply put5_1) | (with_reducible apply put5_2) | (with_reducible apply put5_3) | (with_reducible apply put5_4) | (with_reducible apply put6_0) | (with_reducible apply put6_1) | (with_reducible apply put6_2) | (with_reducible apply put6_3) | (with_reducible apply put6_4) | (with_reducible apply put6_5) | (with_reducible refine blk_else (by omega) ?_) | (with_reducible refine blk_old ?_)))
        · (repeat' (first | (with_reducible exact HB5.out) | (with_reducible exact Below.refl _ _) | (with_reducible refine below_drewN _ ?_) | (with_reducible refine Below.drew ?_) | (with_reducible refine Below.setCell ?_ (by first | (simp; done) | omega) _) | (with_reducible refine Below.alloc ?_ (by have := HB5.out.size; simp; omega) _)))
      · exact absurd hT HYe.out
      · exact absurd hO HXe.out
      · exact absurd hO HXe.out
    obtain ⟨rfl, xc_, xd_, xo_, xk_, xb_⟩ := hcut
    generalize wc = W0 at *
    clear d0_ d1_ d2_ d3_ d4_ d5_ df0_ df1_ df2_ df3_ df4_ df5_ dn_ dm_ dl_ c0_ c1_ c2_ c3_ c4_ cf0_ cf1_ cf2_ cf3_ cf4_ cn_ cm_ cl_ o0_ o1_ o2_ o3_ o4_ of0_ of1_ of2_ of3_ of4_ on_ om_ ol_ k0_ k1_ k2_ k3_ k4_ k5_ kf0_ kf1_ kf2_ kf3_ kf4_ kf5_ kn_ km_ kl_ Hc5 Hd5 Ho5 Hk5 HB5 hB hC M1 M2 N1 N2
    have Hc9 := Lib.hid xc_; have Hd9 := Lib.hid xd_; have Ho9 := Lib.hid xo_; have Hk9 := Lib.hid xk_; have HB9 := Lib.hid xb_
    clear xc_ xd_ xo_ xk_ xb_
    obtain ⟨c0_, c1_, c2_, c3_, c4_, cf0_, cf1_, cf2_, cf3_, cf4_⟩ := at5 Hc9.out
    have cn_ := ne_blk Hc9.out
    have cm_ := Ne.symm (a := Bc) cn_
    have cl_ := lt_blk Hc9.out
    obtain ⟨d0_, d1_, d2_, d3_, d4_, d5_, df0_, df1_, df2_, df3_, df4_, df5_⟩ := at6 Hd9.out
    have dn_ := ne_blk Hd9.out
    have dm_ := Ne.symm (a := Bd) dn_
    have dl_ := lt_blk Hd9.out
    obtain ⟨o0_, o1_, o2_, o3_, o4_, of0_, of1_, of2_, of3_, of4_⟩ := at5 Ho9.out
    have on_ := ne_blk Ho9.out
    have om_ := Ne.symm (a := Bo) on_
    have ol_ := lt_blk Ho9.out
    obtain ⟨k0_, k1_, k2_, k3_, k4_, k5_, kf0_, kf1_, kf2_, kf3_, kf4_, kf5_⟩ := at6 Hk9.out
    have kn_ := ne_blk Hk9.out
    have km_ := Ne.symm (a := Bk) kn_
    have kl_ := lt_blk Hk9.out
    go_upto_region 9 with (fail)
    refine wp_genc ?_
    intro v9 hv9
    have Xc : v9.heap[Bc]? = some (.cells #[.int .u64 r, .int .u64 n, .int .u64 f, .int .u64 a, .int .u64 b] 24 (0, 0)) := by
      rw [hv9]
      (repeat' (first | (with_reducible exact Hc9.out) | (with_reducible exact heap_alloc_new _ _) | (with_reducible exact blk_new (by first | (simp; done) | omega)) | (with_reducible refine blk_drew ?_) | (with_reducible apply put5_0) | (with_reducible apply put5_1) | (with_reducible apply put5_2) | (with_reducible apply put5_3) | (with_reducible apply put5_4) | (with_reducible refine blk_else (by omega) ?_) | (with_reducible refine blk_old ?_)))
    have Xd : v9.heap[Bd]? = some (.cells #[.int .u64 s, .int .u64 q, .int .u64 m, .int .u64 g, .int .u64 c, .int .u64 d] 26 (0, 0)) := by
      rw [hv9]
      (repeat' (first | (with_reducible exact Hd9.out) | (with_reducible exact heap_alloc_new _ _) | (with_reducible exact blk_new (by first | (simp; done) | omega)) | (with_reducible refine blk_drew ?_) | (with_reducible apply put6_0) | (with_reducible apply put6_1) | (with_reducible apply put6_2) | (with_reducible apply put6_3) | (with_reducible apply put6_4) | (with_reducible apply put6_5) | (with_reducible refine blk_else (by omega) ?_) | (with_reducible refine blk_old ?_)))
    have Xo : v9.heap[Bo]? = some (.cells #[.int .u64 o0, .int .u64 o1, .int .u64 o2, .int .u64 o3, .int .u64 o4] 29 (0, 0)) := by
      rw [hv9]
      (repeat' (first | (with_reducible exact Ho9.out) | (with_reducible exact heap_alloc_new _ _) | (with_reducible exact blk_new (by first | (simp; done) | omega)) | (with_reducible refine blk_drew ?_) | (with_reducible apply put5_0) | (with_reducible apply put5_1) | (with_reducible apply put5_2) | (with_reducible apply put5_3) | (with_reducible apply put5_4) | (with_reducible refine blk_else (by omega) ?_) | (with_reducible refine blk_old ?_)))
    have Xk : v9.heap[Bk]? = some (.cells #[.int .u64 t0, .int .u64 t1, .int .u64 t2, .int .u64 t3, .int .u64 t4, .int .u64 t5] 34 (0, 0)) := by
      rw [hv9]
      (repeat' (first | (with_reducible exact Hk9.out) | (with_reducible exact heap_alloc_new _ _) | (with_reducible exact blk_new (by first | (simp; done) | omega)) | (with_reducible refine blk_drew ?_) | (with_reducible apply put6_0) | (with_reducible apply put6_1) | (with_reducible apply put6_2) | (with_reducible apply put6_3) | (with_reducible apply put6_4) | (with_reducible apply put6_5) | (with_reducible refine blk_else (by omega) ?_) | (with_reducible refine blk_old ?_)))
    have XB : Below w.heap.size w v9 := by
      rw [hv9]
      (repeat' (first | (with_reducible exact HB9.out) | (with_reducible exact Below.refl _ _) | (with_reducible refine below_drewN _ ?_) | (with_reducible refine Below.drew ?_) | (with_reducible refine Below.setCell ?_ (by first | (simp; done) | omega) _) | (with_reducible refine Below.alloc ?_ (by have := HB9.out.size; simp; omega) _)))
    clear c0_ c1_ c2_ c3_ c4_ cf0_ cf1_ cf2_ cf3_ cf4_ cn_ cm_ cl_ d0_ d1_ d2_ d3_ d4_ d5_ df0_ df1_ df2_ df3_ df4_ df5_ dn_ dm_ dl_ o0_ o1_ o2_ o3_ o4_ of0_ of1_ of2_ of3_ of4_ on_ om_ ol_ k0_ k1_ k2_ k3_ k4_ k5_ kf0_ kf1_ kf2_ kf3_ kf4_ kf5_ kn_ km_ kl_
    clear hv9 Hc9 Hd9 Ho9 Hk9 HB9
    have Hc10 := Lib.hid Xc
    have Hd10 := Lib.hid Xd
    have Ho10 := Lib.hid Xo
    have Hk10 := Lib.hid Xk
    have HB10 := Lib.hid XB
    clear Xc Xd Xo Xk XB
    obtain ⟨c0_, c1_, c2_, c3_, c4_, cf0_, cf1_, cf2_, cf3_, cf4_⟩ := at5 Hc10.out
    have cn_ := ne_blk Hc10.out
    have cm_ := Ne.symm (a := Bc) cn_
    have cl_ := lt_blk Hc10.out
    obtain ⟨d0_, d1_, d2_, d3_, d4_, d5_, df0_, df1_, df2_, df3_, df4_, df5_⟩ := at6 Hd10.out
    have dn_ := ne_blk Hd10.out
    have dm_ := Ne.symm (a := Bd) dn_
    have dl_ := lt_blk Hd10.out
    obtain ⟨o0_, o1_, o2_, o3_, o4_, of0_, of1_, of2_, of3_, of4_⟩ := at5 Ho10.out
    have on_ := ne_blk Ho10.out
    have om_ := Ne.symm (a := Bo) on_
    have ol_ := lt_blk Ho10.out
    obtain ⟨k0_, k1_, k2_, k3_, k4_, k5_, kf0_, kf1_, kf2_, kf3_, kf4_, kf5_⟩ := at6 Hk10.out
    have kn_ := ne_blk Hk10.out
    have km_ := Ne.symm (a := Bk) kn_
    have kl_ := lt_blk Hk10.out
    go_cut [138] (fun e138 wx => wx.heap[Bc]? = some (.cells #[.int .u64 r, .int .u64 n, .int .u64 f, .int .u64 a, .int .u64 b] 24 (0, 0)) ∧ wx.heap[Bd]? = some (.cells #[.int .u64 s, .int .u64 q, .int .u64 m, .int .u64 g, .int .u64 c, .int .u64 d] 26 (0, 0)) ∧ wx.heap[Bo]? = some (.cells #[.int .u64 r, .int .u64 n, .int .u64 f, .int .u64 a, .int .u64 b] 29 (0, 0)) ∧ wx.heap[Bk]? = some (.cells #[.int .u64 s, .int .u64 q, .int .u64 m, .int .u64 g, .int .u64 c, .int .u64 d] 34 (0, 0)) ∧ Below w.heap.size w wx)
    case first =>
      go_region
      all_goals
        go_wp2
        go_meet
        refine ⟨?_, ?_, ?_, ?_, ?_⟩
        · (repeat' (first | (with_reducible exact Hc10.out) | (with_reducible exact heap_alloc_new _ _) | (with_reducible exact blk_new (by first | (simp; done) | omega)) | (with_reducible refine blk_drew ?_) | (with_reducible apply put1_0) | (with_reducible apply put2_0) | (with_reducible apply put2_1) | (with_reducible apply put3_0) | (with_reducible apply put3_1) | (with_reducible apply put3_2) | (with_reducible apply put4_0) | (with_reducible apply put4_1) | (with_reducible apply put4_2) | (with_reducible apply put4_3) | (with_reducible apply put5_0) | (with_reducible apply put5_1) | (with_reducible apply put5_2) | (with_reducible apply put5_3) | (with_reducible apply put5_4) | (with_reducible apply put6_0) | (with_reducible apply put6_1) | (with_reducible apply put6_2) | (with_reducible apply put6_3) | (with_reducible apply put6_4) | (with_reducible apply put6_5) | (with_reducible refine blk_else (by omega) ?_) | (with_reducible refine blk_old ?_)))
        · (repeat' (first | (with_reducible exact Hd10.out) | (with_reducible exact heap_alloc_new _ _) | (with_reducible exact blk_new (by first | (simp; done) | omega)) | (with_reducible refine blk_drew ?_) | (with_reducible apply put1_0) | (with_reducible apply put2_0) | (with_reducible apply put2_1) | (with_reducible apply put3_0) | (with_reducible apply put3_1) | (with_reducible apply put3_2) | (with_reducible apply put4_0) | (with_reducible apply put4_1) | (with_reducible apply put4_2) | (with_reducible apply put4_3) | (with_reducible apply put5_0) | (with_reducible apply put5_1) | (with_reducible apply put5_2) | (with_reducible apply put5_3) | (with_reducible apply put5_4) | (with_reducible apply put6_0) | (with_reducible apply put6_1) | (with_reducible apply put6_2) | (with_reducible apply put6_3) | (with_reducible apply put6_4) | (with_reducible apply put6_5) | (with_reducible refine blk_else (by omega) ?_) | (with_reducible refine blk_old ?_)))
        · (repeat' (first | (with_reducible exact Ho10.out) | (with_reducible exact heap_alloc_new _ _) | (with_reducible exact blk_new (by first | (simp; done) | omega)) | (with_reducible refine blk_drew ?_) | (with_reducible apply put1_0) | (with_reducible apply put2_0) | (with_reducible apply put2_1) | (with_reducible apply put3_0) | (with_reducible apply put3_1) | (with_reducible apply put3_2) | (with_reducible apply put4_0) | (with_reducible apply put4_1) | (with_reducible apply put4_2) | (with_reducible apply put4_3) | (with_reducible apply put5_0) | (with_reducible apply put5_1) | (with_reducible apply put5_2) | (with_reducible apply put5_3) | (with_reducible apply put5_4) | (with_reducible apply put6_0) | (with_reducible apply put6_1) | (with_reducible apply put6_2) | (with_reducible apply put6_3) | (with_reducible apply put6_4) | (with_reducible apply put6_5) | (with_reducible refine blk_else (by omega) ?_) | (with_reducible refine blk_old ?_)))
        · (repeat' (first | (with_reducible exact Hk10.out) | (with_reducible exact heap_alloc_new _ _) | (with_reducible exact blk_new (by first | (simp; done) | omega)) | (with_reducible refine blk_drew ?_) | (with_reducible apply put1_0) | (with_reducible apply put2_0) | (with_reducible apply put2_1) | (with_reducible apply put3_0) | (with_reducible apply put3_1) | (with_reducible apply put3_2) | (with_reducible apply put4_0) | (with_reducible apply put4_1) | (with_reducible apply put4_2) | (with_reducible apply put4_3) | (with_reducible apply put5_0) | (with_reducible apply put5_1) | (with_reducible apply put5_2) | (with_reducible apply put5_3) | (with_reducible apply put5_4) | (with_reducible apply put6_0) | (with_reducible apply put6_1) | (with_reducible apply put6_2) | (with_reducible apply put6_3) | (with_reducible apply put6_4) | (with_reducible apply put6_5) | (with_reducible refine blk_else (by omega) ?_) | (with_reducible refine blk_old ?_)))
        · (repeat' (first | (with_reducible exact HB10.out) | (with_reducible exact Below.refl _ _) | (with_reducible refine below_drewN _ ?_) | (with_reducible refine Below.drew ?_) | (with_reducible refine Below.setCell ?_ (by first | (simp; done) | omega) _) | (with_reducible refine Below.alloc ?_ (by have := HB10.out.size; simp; omega) _)))
    obtain ⟨xc_, xd_, xo_, xk_, xb_⟩ := hcut
    generalize wc = W1 at *
    clear c0_ c1_ c2_ c3_ c4_ cf0_ cf1_ cf2_ cf3_ cf4_ cn_ cm_ cl_ d0_ d1_ d2_ d3_ d4_ d5_ df0_ df1_ df2_ df3_ df4_ df5_ dn_ dm_ dl_ o0_ o1_ o2_ o3_ o4_ of0_ of1_ of2_ of3_ of4_ on_ om_ ol_ k0_ k1_ k2_ k3_ k4_ k5_ kf0_ kf1_ kf2_ kf3_ kf4_ kf5_ kn_ km_ kl_ Hc10 Hd10 Ho10 Hk10 HB10
    have Hc9 := Lib.hid xc_; have Hd9 := Lib.hid xd_; have Ho9 := Lib.hid xo_; have Hk9 := Lib.hid xk_; have HB9 := Lib.hid xb_
    clear xc_ xd_ xo_ xk_ xb_
    go_wp2
    go_loopw [141] (fun e wr => ∃ (j : Nat) (y0 y1 y2 y3 y4 z0 z1 z2 z3 z4 z5 : Int), e = .int .i64 j ∧ j ≤ nn ∧ MO.wd ⟨y0, y1, y2, y3, y4⟩ ∧ MT.wd ⟨z0, z1, z2, z3, z4, z5⟩ ∧ wr.heap[Bc]? = some (.cells #[.int .u64 y0, .int .u64 y1, .int .u64 y2, .int .u64 y3, .int .u64 y4] 24 (0, 0)) ∧ wr.heap[Bd]? = some (.cells #[.int .u64 z0, .int .u64 z1, .int .u64 z2, .int .u64 z3, .int .u64 z4, .int .u64 z5] 26 (0, 0)) ∧ wr.heap[Bo]? = some (.cells #[.int .u64 y0, .int .u64 y1, .int .u64 y2, .int .u64 y3, .int .u64 y4] 29 (0, 0)) ∧ wr.heap[Bk]? = some (.cells #[.int .u64 z0, .int .u64 z1, .int .u64 z2, .int .u64 z3, .int .u64 z4, .int .u64 z5] 34 (0, 0)) ∧ Below w.heap.size w wr) (fun e _ => nn - (intOf e).toNat)
    case atStart => exact ⟨0, r, n, f, a, b, s, q, m, g, c, d, rfl, Nat.zero_le _, WO, WT, Hc9.out, Hd9.out, Ho9.out, Hk9.out, HB9.out⟩
    case round =>
      clear Hc9 Hd9 Ho9 Hk9 HB9 g200 WO WT
      obtain ⟨j, y0, y1, y2, y3, y4, z0, z1, z2, z3, z4, z5, rfl, hj, wo_, wt_, xc, xd, xo, xk, xb⟩ := hrel
      have Hc9 := Lib.hid xc; have Hd9 := Lib.hid xd; have Ho9 := Lib.hid xo; have Hk9 := Lib.hid xk; have HB9 := Lib.hid xb
      clear xc xd xo xk
      by_cases hlt : j < nn
      · obtain ⟨hzl, hzm, hzw, hzc⟩ := HR.out
        obtain ⟨b, off, rfl, hb0, hcs⟩ := hzc (by omega)
        obtain ⟨cx0, cx1, cx2⟩ := hcs j hlt
        have ac0_ := (xb.cell (p := ⟨b, off + j * 3, none⟩) hb0).trans cx0
        have ac1_ := (xb.cell (p := ⟨b, off + j * 3 + 1, none⟩) hb0).trans cx1
        have ac2_ := (xb.cell (p := ⟨b, off + j * 3 + 2, none⟩) hb0).trans cx2
        have hxw : (fs.getD j Act21.nil).ok := hzw _ (by rw [List.getD_eq_getElem?_getD, List.getElem?_eq_getElem (by omega : j < fs.length)]; exact List.getElem_mem _)
        obtain ⟨act, hact⟩ : ∃ x, x = fs.getD j Act21.nil := ⟨_, rfl⟩
        rw [← hact] at ac0_ ac1_ ac2_ hxw
        clear hact
        obtain ⟨ad, an, ak⟩ := act
        obtain ⟨⟨w0_, w1_⟩, ⟨w2_, w3_⟩, w4_, w5_⟩ := hxw
        dsimp only at w0_ w1_ w2_ w3_ w4_ w5_ ac0_ ac1_ ac2_
        have wo2_ := mo_wd wo_ (x := ad) w0_
        have wt2_ := mt_wd wt_ (x := ad) w0_
        have T1 := Lib.hid (fun W => mo_tick ⟨y0, y1, y2, y3, y4⟩ wo_ ad w0_ w1_ W)
        have T2 := Lib.hid (fun W => mt_tick ⟨z0, z1, z2, z3, z4, z5⟩ wt_ ad w0_ w1_ W)
        have T3 := Lib.hid (fun W => mo_rtick ⟨y0, y1, y2, y3, y4⟩ wo_ ad w0_ w1_ W)
        have T4 := Lib.hid (fun W => mt_rtick ⟨z0, z1, z2, z3, z4, z5⟩ wt_ ad w0_ w1_ W)
        obtain ⟨m5, hm5⟩ : ∃ x, x = MO.tick ⟨y0, y1, y2, y3, y4⟩ ad := ⟨_, rfl⟩
        rw [← hm5] at T1 T3 wo2_
        clear hm5
        obtain ⟨m6, hm6⟩ : ∃ x, x = MT.tick ⟨z0, z1, z2, z3, z4, z5⟩ ad := ⟨_, rfl⟩
        rw [← hm6] at T2 T4 wt2_
        clear hm6
        have wo3_ := mo_col_wd m5 wo2_ an w2_ ak
        have wt3_ := mt_col_wd m6 wt2_ an w2_ ak
        have C1 := Lib.hid (fun W => mo_col m5 wo2_ an w2_ w3_ ak W)
        have C2 := Lib.hid (fun W => mt_col m6 wt2_ an w2_ w3_ ak W)
        have C3 := Lib.hid (fun W => mo_rcol m5 wo2_ an w2_ w3_ ak W)
        have C4 := Lib.hid (fun W => mt_rcol m6 wt2_ an w2_ w3_ ak W)
        obtain ⟨n5, hn5⟩ : ∃ x, x = MO.col m5 an ak := ⟨_, rfl⟩
        rw [← hn5] at C1 C3 wo3_
        clear hn5
        obtain ⟨n6, hn6⟩ : ∃ x, x = MT.col m6 an ak := ⟨_, rfl⟩
        rw [← hn6] at C2 C4 wt3_
        clear hn6
        obtain ⟨p0, p1, p2, p3, p4⟩ := m5
        obtain ⟨u0, u1, u2, u3, u4, u5⟩ := m6
        obtain ⟨⟨k0, k1, k2, k3, k4⟩, cA⟩ := n5
        obtain ⟨⟨v0, v1, v2, v3, v4, v5⟩, cB⟩ := n6
        simp only [mo_val, mt_val] at T1 T2 T3 T4 C1 C2 C3 C4
        clear hzl hzm hzw hzc hcs cx0 cx1 cx2 xb wo_ wt_ wo2_ wt2_
        obtain ⟨c0_, c1_, c2_, c3_, c4_, cf0_, cf1_, cf2_, cf3_, cf4_⟩ := at5 Hc9.out
        have cn_ := ne_blk Hc9.out
        have cm_ := Ne.symm (a := Bc) cn_
        have cl_ := lt_blk Hc9.out
        obtain ⟨d0_, d1_, d2_, d3_, d4_, d5_, df0_, df1_, df2_, df3_, df4_, df5_⟩ := at6 Hd9.out
        have dn_ := ne_blk Hd9.out
        have dm_ := Ne.symm (a := Bd) dn_
        have dl_ := lt_blk Hd9.out
        obtain ⟨o0_, o1_, o2_, o3_, o4_, of0_, of1_, of2_, of3_, of4_⟩ := at5 Ho9.out
        have on_ := ne_blk Ho9.out
        have om_ := Ne.symm (a := Bo) on_
        have ol_ := lt_blk Ho9.out
        obtain ⟨k0_, k1_, k2_, k3_, k4_, k5_, kf0_, kf1_, kf2_, kf3_, kf4_, kf5_⟩ := at6 Hk9.out
        have kn_ := ne_blk Hk9.out
        have km_ := Ne.symm (a := Bk) kn_
        have kl_ := lt_blk Hk9.out
        go_upto_region 13 with (fail)
        refine wp_genc ?_
        intro v9 hv9
        have Xc : v9.heap[Bc]? = some (.cells #[.int .u64 y0, .int .u64 y1, .int .u64 y2, .int .u64 y3, .int .u64 y4] 24 (0, 0)) := by
          rw [hv9]
          (repeat' (first | (with_reducible exact Hc9.out) | (with_reducible exact heap_alloc_new _ _) | (with_reducible exact blk_new (by first | (simp; done) | omega)) | (with_reducible refine blk_drew ?_) | (with_reducible apply put5_0) | (with_reducible apply put5_1) | (with_reducible apply put5_2) | (with_reducible apply put5_3) | (with_reducible apply put5_4) | (with_reducible refine blk_else (by omega) ?_) | (with_reducible refine blk_old ?_)))
        have Xd : v9.heap[Bd]? = some (.cells #[.int .u64 z0, .int .u64 z1, .int .u64 z2, .int .u64 z3, .int .u64 z4, .int .u64 z5] 26 (0, 0)) := by
          rw [hv9]
          (repeat' (first | (with_reducible exact Hd9.out) | (with_reducible exact heap_alloc_new _ _) | (with_reducible exact blk_new (by first | (simp; done) | omega)) | (with_reducible refine blk_drew ?_) | (with_reducible apply put6_0) | (with_reducible apply put6_1) | (with_reducible apply put6_2) | (with_reducible apply put6_3) | (with_reducible apply put6_4) | (with_reducible apply put6_5) | (with_reducible refine blk_else (by omega) ?_) | (with_reducible refine blk_old ?_)))
        have Xo : v9.heap[Bo]? = some (.cells #[.int .u64 y0, .int .u64 y1, .int .u64 y2, .int .u64 y3, .int .u64 y4] 29 (0, 0)) := by
          rw [hv9]
          (repeat' (first | (with_reducible exact Ho9.out) | (with_reducible exact heap_alloc_new _ _) | (with_reducible exact blk_new (by first | (simp; done) | omega)) | (with_reducible refine blk_drew ?_) | (with_reducible apply put5_0) | (with_reducible apply put5_1) | (with_reducible apply put5_2) | (with_reducible apply put5_3) | (with_reducible apply put5_4) | (with_reducible refine blk_else (by omega) ?_) | (with_reducible refine blk_old ?_)))
        have Xk : v9.heap[Bk]? = some (.cells #[.int .u64 z0, .int .u64 z1, .int .u64 z2, .int .u64 z3, .int .u64 z4, .int .u64 z5] 34 (0, 0)) := by
          rw [hv9]
          (repeat' (first | (with_reducible exact Hk9.out) | (with_reducible exact heap_alloc_new _ _) | (with_reducible exact blk_new (by first | (simp; done) | omega)) | (with_reducible refine blk_drew ?_) | (with_reducible apply put6_0) | (with_reducible apply put6_1) | (with_reducible apply put6_2) | (with_reducible apply put6_3) | (with_reducible apply put6_4) | (with_reducible apply put6_5) | (with_reducible refine blk_else (by omega) ?_) | (with_reducible refine blk_old ?_)))
        have XB : Below w.heap.size w v9 := by
          rw [hv9]
          (repeat' (first | (with_reducible exact HB9.out) | (with_reducible exact Below.refl _ _) | (with_reducible refine below_drewN _ ?_) | (with_reducible refine Below.drew ?_) | (with_reducible refine Below.setCell ?_ (by first | (simp; done) | omega) _) | (with_reducible refine Below.alloc ?_ (by have := HB9.out.size; simp; omega) _)))
        have Xe : v9.heap[wr.heap.size]? = some (.cells #[.int .u64 ad, .int .u64 an, .int .i64 ak] 39 (0, 0)) := by
          rw [hv9]
          (repeat' (first | (with_reducible exact heap_alloc_new _ _) | (with_reducible exact blk_new (by first | (simp; done) | omega)) | (with_reducible refine blk_drew ?_) | (with_reducible apply put3_0) | (with_reducible apply put3_1) | (with_reducible apply put3_2) | (with_reducible refine blk_else (by omega) ?_) | (with_reducible refine blk_old ?_)))
        obtain ⟨Be, hBe⟩ : ∃ x, x = wr.heap.size := ⟨_, rfl⟩
        rw [← hBe] at Xe
        try rw [← hBe]
        have nec : ¬ Be = Bc := by have := lt_blk Hc9.out; omega
        have nce : ¬ Bc = Be := fun h => nec h.symm
        have ned : ¬ Be = Bd := by have := lt_blk Hd9.out; omega
        have nde : ¬ Bd = Be := fun h => ned h.symm
        have neo : ¬ Be = Bo := by have := lt_blk Ho9.out; omega
        have noe : ¬ Bo = Be := fun h => neo h.symm
        have nek : ¬ Be = Bk := by have := lt_blk Hk9.out; omega
        have nke : ¬ Bk = Be := fun h => nek h.symm
        have lee : w.heap.size ≤ Be := by have := HB9.out.size; omega
        clear hBe
        clear c0_ c1_ c2_ c3_ c4_ cf0_ cf1_ cf2_ cf3_ cf4_ cn_ cm_ cl_ d0_ d1_ d2_ d3_ d4_ d5_ df0_ df1_ df2_ df3_ df4_ df5_ dn_ dm_ dl_ o0_ o1_ o2_ o3_ o4_ of0_ of1_ of2_ of3_ of4_ on_ om_ ol_ k0_ k1_ k2_ k3_ k4_ k5_ kf0_ kf1_ kf2_ kf3_ kf4_ kf5_ kn_ km_ kl_ ac0_ ac1_ ac2_
        clear hv9 Hc9 Hd9 Ho9 Hk9 HB9
        have Hc10 := Lib.hid Xc
        have Hd10 := Lib.hid Xd
        have Ho10 := Lib.hid Xo
        have Hk10 := Lib.hid Xk
        have He10 := Lib.hid Xe
        have HB10 := Lib.hid XB
        clear Xc Xd Xo Xk Xe XB
        obtain ⟨c0_, c1_, c2_, c3_, c4_, cf0_, cf1_, cf2_, cf3_, cf4_⟩ := at5 Hc10.out
        have cn_ := ne_blk Hc10.out
        have cm_ := Ne.symm (a := Bc) cn_
        have cl_ := lt_blk Hc10.out
        obtain ⟨d0_, d1_, d2_, d3_, d4_, d5_, df0_, df1_, df2_, df3_, df4_, df5_⟩ := at6 Hd10.out
        have dn_ := ne_blk Hd10.out
        have dm_ := Ne.symm (a := Bd) dn_
        have dl_ := lt_blk Hd10.out
        obtain ⟨o0_, o1_, o2_, o3_, o4_, of0_, of1_, of2_, of3_, of4_⟩ := at5 Ho10.out
        have on_ := ne_blk Ho10.out
        have om_ := Ne.symm (a := Bo) on_
        have ol_ := lt_blk Ho10.out
        obtain ⟨k0_, k1_, k2_, k3_, k4_, k5_, kf0_, kf1_, kf2_, kf3_, kf4_, kf5_⟩ := at6 Hk10.out
        have kn_ := ne_blk Hk10.out
        have km_ := Ne.symm (a := Bk) kn_
        have kl_ := lt_blk Hk10.out
        obtain ⟨e0_, e1_, e2_, ef0_, ef1_, ef2_⟩ := at3 He10.out
        have en_ := ne_blk He10.out
        have em_ := Ne.symm (a := Be) en_
        have el_ := lt_blk He10.out
        go_cut [152] (fun e_ wx => wx.heap[Bc]? = some (.cells #[.int .u64 y0, .int .u64 y1, .int .u64 y2, .int .u64 y3, .int .u64 y4] 24 (0, 0)) ∧ wx.heap[Bd]? = some (.cells #[.int .u64 z0, .int .u64 z1, .int .u64 z2, .int .u64 z3, .int .u64 z4, .int .u64 z5] 26 (0, 0)) ∧ wx.heap[Bo]? = some (.cells #[.int .u64 p0, .int .u64 p1, .int .u64 p2, .int .u64 p3, .int .u64 p4] 29 (0, 0)) ∧ wx.heap[Bk]? = some (.cells #[.int .u64 u0, .int .u64 u1, .int .u64 u2, .int .u64 u3, .int .u64 u4, .int .u64 u5] 34 (0, 0)) ∧ wx.heap[Be]? = some (.cells #[.int .u64 ad, .int .u64 an, .int .i64 ak] 39 (0, 0)) ∧ Below w.heap.size w wx)
        case first =>
          have KTA := Lib.hid (fun (W : World) (x0_ x1_ x2_ x3_ x4_ : Value) (hS : W.cell? ⟨Be, 0, none⟩ = some (.int .u64 ad)) =>
            have ng : ∀ k q, (⟨Bo, k, none⟩ : Addr) ≠ ⟨Be, q, none⟩ := fun k q e => by injection e with e1 e2 e3; exact noe e1
            (((World.cell?_setCell_other _ ⟨Bo, 4, none⟩ ⟨Be, 0, none⟩ x4_ (ng 4 0)).trans ((World.cell?_setCell_other _ ⟨Bo, 3, none⟩ ⟨Be, 0, none⟩ x3_ (ng 3 0)).trans ((World.cell?_setCell_other _ ⟨Bo, 2, none⟩ ⟨Be, 0, none⟩ x2_ (ng 2 0)).trans ((World.cell?_setCell_other _ ⟨Bo, 1, none⟩ ⟨Be, 0, none⟩ x1_ (ng 1 0)).trans ((World.cell?_setCell_other _ ⟨Bo, 0, none⟩ ⟨Be, 0, none⟩ x0_ (ng 0 0)).trans hS))))) : (((((W.setCell ⟨Bo, 0, none⟩ x0_).setCell ⟨Bo, 1, none⟩ x1_).setCell ⟨Bo, 2, none⟩ x2_).setCell ⟨Bo, 3, none⟩ x3_).setCell ⟨Bo, 4, none⟩ x4_).cell? ⟨Be, 0, none⟩ = some (.int .u64 ad)))
          have KTB := Lib.hid (fun (W : World) (x0_ x1_ x2_ x3_ x4_ x5_ : Value) (hS : W.cell? ⟨Be, 0, none⟩ = some (.int .u64 ad)) =>
            have ng : ∀ k q, (⟨Bk, k, none⟩ : Addr) ≠ ⟨Be, q, none⟩ := fun k q e => by injection e with e1 e2 e3; exact nke e1
            (((World.cell?_setCell_other _ ⟨Bk, 5, none⟩ ⟨Be, 0, none⟩ x5_ (ng 5 0)).trans ((World.cell?_setCell_other _ ⟨Bk, 4, none⟩ ⟨Be, 0, none⟩ x4_ (ng 4 0)).trans ((World.cell?_setCell_other _ ⟨Bk, 3, none⟩ ⟨Be, 0, none⟩ x3_ (ng 3 0)).trans ((World.cell?_setCell_other _ ⟨Bk, 2, none⟩ ⟨Be, 0, none⟩ x2_ (ng 2 0)).trans ((World.cell?_setCell_other _ ⟨Bk, 1, none⟩ ⟨Be, 0, none⟩ x1_ (ng 1 0)).trans ((World.cell?_setCell_other _ ⟨Bk, 0, none⟩ ⟨Be, 0, none⟩ x0_ (ng 0 0)).trans hS)))))) : ((((((W.setCell ⟨Bk, 0, none⟩ x0_).setCell ⟨Bk, 1, none⟩ x1_).setCell ⟨Bk, 2, none⟩ x2_).setCell ⟨Bk, 3, none⟩ x3_).setCell ⟨Bk, 4, none⟩ x4_).setCell ⟨Bk, 5, none⟩ x5_).cell? ⟨Be, 0, none⟩ = some (.int .u64 ad)))
          refine wp_region_noPanic ?_
          refine wp_region_held_drew (S := fun v => v.cell? ⟨Be, 0, none⟩ = some (.int .u64 ad)) (by kernel_rfl) e0_ (fun hHeld => ?_)
          refine take_list (i := 1) (oi := _) (v := ?_) rfl (by kernel_rfl) (by kernel_rfl) (by kernel_rfl) (fun _ _ _ h => h) (Or.inl ⟨by rfl, ?_⟩) (by assumption) ?_
          rotate_left 1
          · intro v hSw
            (try dsimp only at hSw)
            go_simp
            try with_reducible rfl
          try simp only [List.getElem_toArray, List.getElem_cons_succ, List.getElem_cons_zero, Act.put, List.setIfInBounds_toArray, List.set_cons_zero, List.set_cons_succ]
          refine take_list (i := 2) (oi := _) (v := ?_) rfl (by kernel_rfl) (by kernel_rfl) (by kernel_rfl) (fun _ _ _ h => h) (Or.inl ⟨by rfl, ?_⟩) (by assumption) ?_
          rotate_left 1
          · intro v hSw
            (try dsimp only at hSw)
            go_simp
            try with_reducible rfl
          try simp only [List.getElem_toArray, List.getElem_cons_succ, List.getElem_cons_zero, Act.put, List.setIfInBounds_toArray, List.set_cons_zero, List.set_cons_succ]
          refine take_list (i := 5) (oi := _) (v := ?_) rfl (by kernel_rfl) (by kernel_rfl) (by kernel_rfl) (fun _ _ _ h => h) (Or.inl ⟨by rfl, ?_⟩) (by assumption) ?_
          rotate_left 1
          · intro v hSw
            (try dsimp only at hSw)
            go_simp
            try with_reducible rfl
          try simp only [List.getElem_toArray, List.getElem_cons_succ, List.getElem_cons_zero, Act.put, List.setIfInBounds_toArray, List.set_cons_zero, List.set_cons_succ]
          refine take_list (i := 6) (oi := _) (v := ?_) rfl (by kernel_rfl) (by kernel_rfl) (by kernel_rfl) (fun _ _ _ h => h) (Or.inl ⟨by rfl, ?_⟩) (by assumption) ?_
          rotate_left 1
          · intro v hSw
            (try dsimp only at hSw)
            go_simp
            try with_reducible rfl
          try simp only [List.getElem_toArray, List.getElem_cons_succ, List.getElem_cons_zero, Act.put, List.setIfInBounds_toArray, List.set_cons_zero, List.set_cons_succ]
          refine wpAnyH_norm (n := 6) (l := #[false, true, true, false, false, true, true, false, false, false]) (by kernel_rfl) (by kernel_rfl) ?_
          refine wpAnyH_ready (rs := [0, 4]) (by kernel_rfl) (by simp) ?_
          refine (cons_list (o := _) rfl (fun KQ hK => ?_) (cons_list (o := _) rfl (fun KQ hK => ?_) AllReadyH.nil))
          · rw [if_pos (by rfl)]
            go_simp
            refine hK.out _ _ (e0_) (fun hHeld => ?_)
            clear hK KQ
            try simp only [List.getElem_toArray, List.getElem_cons_succ, List.getElem_cons_zero, Act.put, List.setIfInBounds_toArray, List.set_cons_zero, List.set_cons_succ]
            refine wpAnyH_norm (n := 5) (l := #[true, true, true, false, false, true, true, false, false, false]) (by kernel_rfl) (by kernel_rfl) ?_
            refine wpAnyH_ready (rs := [3, 4]) (by kernel_rfl) (by simp) ?_
            refine (cons_list (o := _) rfl (fun KQ hK => ?_) (cons_list (o := _) rfl (fun KQ hK => ?_) AllReadyH.nil))
            · rw [if_pos (by rfl)]
              go_wp2_with (go_at_call 16; (with_reducible refine (T1.out _).mono ?_); rintro e uA ⟨rfl, huA⟩; have Yc : uA.heap[Bc]? = some (.cells #[.int .u64 y0, .int .u64 y1, .int .u64 y2, .int .u64 y3, .int .u64 y4] 24 (0, 0)) := blk_call huA (by first | (with_reducible exact Hc10.out) | (with_reducible exact blk_drew Hc10.out)); have Yd : uA.heap[Bd]? = some (.cells #[.int .u64 z0, .int .u64 z1, .int .u64 z2, .int .u64 z3, .int .u64 z4, .int .u64 z5] 26 (0, 0)) := blk_call huA (by first | (with_reducible exact Hd10.out) | (with_reducible exact blk_drew Hd10.out)); have Yo : uA.heap[Bo]? = some (.cells #[.int .u64 y0, .int .u64 y1, .int .u64 y2, .int .u64 y3, .int .u64 y4] 29 (0, 0)) := blk_call huA (by first | (with_reducible exact Ho10.out) | (with_reducible exact blk_drew Ho10.out)); have Yk : uA.heap[Bk]? = some (.cells #[.int .u64 z0, .int .u64 z1, .int .u64 z2, .int .u64 z3, .int .u64 z4, .int .u64 z5] 34 (0, 0)) := blk_call huA (by first | (with_reducible exact Hk10.out) | (with_reducible exact blk_drew Hk10.out)); have Ye : uA.heap[Be]? = some (.cells #[.int .u64 ad, .int .u64 an, .int .i64 ak] 39 (0, 0)) := blk_call huA (by first | (with_reducible exact He10.out) | (with_reducible exact blk_drew He10.out)); have YB := bel_call huA (show Below w.heap.size w _ by first | (with_reducible exact HB10.out) | (with_reducible exact HB10.out.drew)) (by have := HB10.out.size; first | omega | (simp; omega)); obtain ⟨o0q, o1q, o2q, o3q, o4q, of0q, of1q, of2q, of3q, of4q⟩ := at5 Yo; have olq := lt_blk Yo; obtain ⟨k0q, k1q, k2q, k3q, k4q, k5q, kf0q, kf1q, kf2q, kf3q, kf4q, kf5q⟩ := at6 Yk; have klq := lt_blk Yk; have HS131 := Lib.hid (show uA.cell? ⟨Be, 0, none⟩ = some (.int .u64 ad) from cell_blk Ye 0 rfl); have Hc131 := Lib.hid Yc; have Hd131 := Lib.hid Yd; have Ho131 := Lib.hid Yo; have Hk131 := Lib.hid Yk; have He131 := Lib.hid Ye; have HB131 := Lib.hid YB; clear huA YB Yc Yd Yo Yk Ye)
              refine hK.out _ _ (HS131.out) (fun hHeld => ?_)
              clear hK KQ
              try simp only [List.getElem_toArray, List.getElem_cons_succ, List.getElem_cons_zero, Act.put, List.setIfInBounds_toArray, List.set_cons_zero, List.set_cons_succ]
              refine wpAnyH_norm (n := 4) (l := #[true, true, true, true, false, true, true, false, false, false]) (by kernel_rfl) (by kernel_rfl) ?_
              refine wpAnyH_ready (rs := [4]) (by kernel_rfl) (by simp) ?_
              refine (cons_list (o := _) rfl (fun KQ hK => ?_) AllReadyH.nil)
              rw [if_pos (by rfl)]
              go_simp
              refine hK.out _ _ (HS131.out) (fun hHeld => ?_)
              clear hK KQ
              try simp only [List.getElem_toArray, List.getElem_cons_succ, List.getElem_cons_zero, Act.put, List.setIfInBounds_toArray, List.set_cons_zero, List.set_cons_succ]
              refine wpAnyH_norm (n := 3) (l := #[true, true, true, true, true, true, true, false, false, false]) (by kernel_rfl) (by kernel_rfl) ?_
              refine wpAnyH_ready (rs := [7]) (by kernel_rfl) (by simp) ?_
              refine (cons_list (o := _) rfl (fun KQ hK => ?_) AllReadyH.nil)
              rw [if_pos (by rfl)]
              go_wp2_with (go_at_call 17; (with_reducible refine (T2.out _).mono ?_); rintro e uB ⟨rfl, huB⟩; have Yc : uB.heap[Bc]? = some (.cells #[.int .u64 y0, .int .u64 y1, .int .u64 y2, .int .u64 y3, .int .u64 y4] 24 (0, 0)) := blk_call huB (by first | (with_reducible exact Hc131.out) | (with_reducible exact blk_drew Hc131.out)); have Yd : uB.heap[Bd]? = some (.cells #[.int .u64 z0, .int .u64 z1, .int .u64 z2, .int .u64 z3, .int .u64 z4, .int .u64 z5] 26 (0, 0)) := blk_call huB (by first | (with_reducible exact Hd131.out) | (with_reducible exact blk_drew Hd131.out)); have Yo : uB.heap[Bo]? = some (.cells #[.int .u64 y0, .int .u64 y1, .int .u64 y2, .int .u64 y3, .int .u64 y4] 29 (0, 0)) := blk_call huB (by first | (with_reducible exact Ho131.out) | (with_reducible exact blk_drew Ho131.out)); have Yk : uB.heap[Bk]? = some (.cells #[.int .u64 z0, .int .u64 z1, .int .u64 z2, .int .u64 z3, .int .u64 z4, .int .u64 z5] 34 (0, 0)) := blk_call huB (by first | (with_reducible exact Hk131.out) | (with_reducible exact blk_drew Hk131.out)); have Ye : uB.heap[Be]? = some (.cells #[.int .u64 ad, .int .u64 an, .int .i64 ak] 39 (0, 0)) := blk_call huB (by first | (with_reducible exact He131.out) | (with_reducible exact blk_drew He131.out)); have YB := bel_call huB (show Below w.heap.size w _ by first | (with_reducible exact HB131.out) | (with_reducible exact HB131.out.drew)) (by have := HB131.out.size; first | omega | (simp; omega)); clear o0q o1q o2q o3q o4q of0q of1q of2q of3q of4q olq k0q k1q k2q k3q k4q k5q kf0q kf1q kf2q kf3q kf4q kf5q klq; obtain ⟨o0q, o1q, o2q, o3q, o4q, of0q, of1q, of2q, of3q, of4q⟩ := at5 Yo; have olq := lt_blk Yo; obtain ⟨k0q, k1q, k2q, k3q, k4q, k5q, kf0q, kf1q, kf2q, kf3q, kf4q, kf5q⟩ := at6 Yk; have klq := lt_blk Yk; have HS132 := Lib.hid (show uB.cell? ⟨Be, 0, none⟩ = some (.int .u64 ad) from cell_blk Ye 0 rfl); have Hc132 := Lib.hid Yc; have Hd132 := Lib.hid Yd; have Ho132 := Lib.hid Yo; have Hk132 := Lib.hid Yk; have He132 := Lib.hid Ye; have HB132 := Lib.hid YB; clear huB YB Yc Yd Yo Yk Ye)
              refine hK.out _ _ (HS132.out) (fun hHeld => ?_)
              clear hK KQ
              try simp only [List.getElem_toArray, List.getElem_cons_succ, List.getElem_cons_zero, Act.put, List.setIfInBounds_toArray, List.set_cons_zero, List.set_cons_succ]
              refine wpAnyH_norm (n := 2) (l := #[true, true, true, true, true, true, true, true, false, false]) (by kernel_rfl) (by kernel_rfl) ?_
              refine wpAnyH_ready (rs := [8]) (by kernel_rfl) (by simp) ?_
              refine (cons_list (o := _) rfl (fun KQ hK => ?_) AllReadyH.nil)
              rw [if_pos (by rfl)]
              go_simp
              refine hK.out _ _ (KTA.out _ _ _ _ _ _ HS132.out) (fun hHeld => ?_)
              clear hK KQ
              try simp only [List.getElem_toArray, List.getElem_cons_succ, List.getElem_cons_zero, Act.put, List.setIfInBounds_toArray, List.set_cons_zero, List.set_cons_succ]
              refine wpAnyH_norm (n := 1) (l := #[true, true, true, true, true, true, true, true, true, false]) (by kernel_rfl) (by kernel_rfl) ?_
              refine wpAnyH_ready (rs := [9]) (by kernel_rfl) (by simp) ?_
              refine (cons_list (o := _) rfl (fun KQ hK => ?_) AllReadyH.nil)
              rw [if_pos (by rfl)]
              go_simp
              refine hK.out _ _ (KTB.out _ _ _ _ _ _ _ (KTA.out _ _ _ _ _ _ HS132.out)) (fun hHeld => ?_)
              clear hK KQ
              try simp only [List.getElem_toArray, List.getElem_cons_succ, List.getElem_cons_zero, Act.put, List.setIfInBounds_toArray, List.set_cons_zero, List.set_cons_succ]
              refine wpAnyH_norm (n := 0) (l := #[true, true, true, true, true, true, true, true, true, true]) (by kernel_rfl) (by kernel_rfl) ?_
              refine wpAnyH_done (by kernel_rfl) ?_ _
              refine NoPanic.normal ?_
              go_wp2
              go_meet
              refine ⟨?_, ?_, ?_, ?_, ?_, ?_⟩
              · (repeat' (first | (with_reducible exact Hc132.out) | (with_reducible exact heap_alloc_new _ _) | (with_reducible exact blk_new (by first | (simp; done) | omega)) | (with_reducible refine blk_drew ?_) | (with_reducible apply put1_0) | (with_reducible apply put2_0) | (with_reducible apply put2_1) | (with_reducible apply put3_0) | (with_reducible apply put3_1) | (with_reducible apply put3_2) | (with_reducible apply put4_0) | (with_reducible apply put4_1) | (with_reducible apply put4_2) | (with_reducible apply put4_3) | (with_reducible apply put5_0) | (with_reducible apply put5_1) | (with_reducible apply put5_2) | (with_reducible apply put5_3) | (with_reducible apply put5_4) | (with_reducible apply put6_0) | (with_reducible apply put6_1) | (with_reducible apply put6_2) | (with_reducible apply put6_3) | (with_reducible apply put6_4) | (with_reducible apply put6_5) | (with_reducible refine blk_else (by omega) ?_) | (with_reducible refine blk_old ?_)))
              · (repeat' (first | (with_reducible exact Hd132.out) | (with_reducible exact heap_alloc_new _ _) | (with_reducible exact blk_new (by first | (simp; done) | omega)) | (with_reducible refine blk_drew ?_) | (with_reducible apply put1_0) | (with_reducible apply put2_0) | (with_reducible apply put2_1) | (with_reducible apply put3_0) | (with_reducible apply put3_1) | (with_reducible apply put3_2) | (with_reducible apply put4_0) | (with_reducible apply put4_1) | (with_reducible apply put4_2) | (with_reducible apply put4_3) | (with_reducible apply put5_0) | (with_reducible apply put5_1) | (with_reducible apply put5_2) | (with_reducible apply put5_3) | (with_reducible apply put5_4) | (with_reducible apply put6_0) | (with_reducible apply put6_1) | (with_reducible apply put6_2) | (with_reducible apply put6_3) | (with_reducible apply put6_4) | (with_reducible apply put6_5) | (with_reducible refine blk_else (by omega) ?_) | (with_reducible refine blk_old ?_)))
              · (repeat' (first | (with_reducible exact Ho132.out) | (with_reducible exact heap_alloc_new _ _) | (with_reducible exact blk_new (by first | (simp; done) | omega)) | (with_reducible refine blk_drew ?_) | (with_reducible apply put1_0) | (with_reducible apply put2_0) | (with_reducible apply put2_1) | (with_reducible apply put3_0) | (with_reducible apply put3_1) | (with_reducible apply put3_2) | (with_reducible apply put4_0) | (with_reducible apply put4_1) | (with_reducible apply put4_2) | (with_reducible apply put4_3) | (with_reducible apply put5_0) | (with_reducible apply put5_1) | (with_reducible apply put5_2) | (with_reducible apply put5_3) | (with_reducible apply put5_4) | (with_reducible apply put6_0) | (with_reducible apply put6_1) | (with_reducible apply put6_2) | (with_reducible apply put6_3) | (with_reducible apply put6_4) | (with_reducible apply put6_5) | (with_reducible refine blk_else (by omega) ?_) | (with_reducible refine blk_old ?_)))
              · (repeat' (first | (with_reducible exact Hk132.out) | (with_reducible exact heap_alloc_new _ _) | (with_reducible exact blk_new (by first | (simp; done) | omega)) | (with_reducible refine blk_drew ?_) | (with_reducible apply put1_0) | (with_reducible apply put2_0) | (with_reducible apply put2_1) | (with_reducible apply put3_0) | (with_reducible apply put3_1) | (with_reducible apply put3_2) | (with_reducible apply put4_0) | (with_reducible apply put4_1) | (with_reducible apply put4_2) | (with_reducible apply put4_3) | (with_reducible apply put5_0) | (with_reducible apply put5_1) | (with_reducible apply put5_2) | (with_reducible apply put5_3) | (with_reducible apply put5_4) | (with_reducible apply put6_0) | (with_reducible apply put6_1) | (with_reducible apply put6_2) | (with_reducible apply put6_3) | (with_reducible apply put6_4) | (with_reducible apply put6_5) | (with_reducible refine blk_else (by omega) ?_) | (with_reducible refine blk_old ?_)))
              · (repeat' (first | (with_reducible exact He132.out) | (with_reducible exact heap_alloc_new _ _) | (with_reducible exact blk_new (by first | (simp; done) | omega)) | (with_reducible refine blk_drew ?_) | (with_reducible apply put1_0) | (with_reducible apply put2_0) | (with_reducible apply put2_1) | (with_reducible apply put3_0) | (with_reducible apply put3_1) | (with_reducible apply put3_2) | (with_reducible apply put4_0) | (with_reducible apply put4_1) | (with_reducible apply put4_2) | (with_reducible apply put4_3) | (with_reducible apply put5_0) | (with_reducible apply put5_1) | (with_reducible apply put5_2) | (with_reducible apply put5_3) | (with_reducible apply put5_4) | (with_reducible apply put6_0) | (with_reducible apply put6_1) | (with_reducible apply put6_2) | (with_reducible apply put6_3) | (with_reducible apply put6_4) | (with_reducible apply put6_5) | (with_reducible refine blk_else (by omega) ?_) | (with_reducible refine blk_old ?_)))
              · (repeat' (first | (with_reducible exact HB132.out) | (with_reducible exact Below.refl _ _) | (with_reducible refine below_drewN _ ?_) | (with_reducible refine Below.drew ?_) | (with_reducible refine Below.setCell ?_ (by first | (simp; done) | omega) _) | (with_reducible refine Below.alloc ?_ (by have := HB132.out.size; simp; omega) _)))
            · rw [if_pos (by rfl)]
              go_simp
              refine hK.out _ _ (e0_) (fun hHeld => ?_)
              clear hK KQ
              try simp only [List.getElem_toArray, List.getElem_cons_succ, List.getElem_cons_zero, Act.put, List.setIfInBounds_toArray, List.set_cons_zero, List.set_cons_succ]
              refine wpAnyH_norm (n := 4) (l := #[true, true, true, false, true, true, true, false, false, false]) (by kernel_rfl) (by kernel_rfl) ?_
              refine wpAnyH_ready (rs := [3]) (by kernel_rfl) (by simp) ?_
              refine (cons_list (o := _) rfl (fun KQ hK => ?_) AllReadyH.nil)
              rw [if_pos (by rfl)]
              go_wp2_with (go_at_call 16; (with_reducible refine (T1.out _).mono ?_); rintro e uA ⟨rfl, huA⟩; have Yc : uA.heap[Bc]? = some (.cells #[.int .u64 y0, .int .u64 y1, .int .u64 y2, .int .u64 y3, .int .u64 y4] 24 (0, 0)) := blk_call huA (by first | (with_reducible exact Hc10.out) | (with_reducible exact blk_drew Hc10.out)); have Yd : uA.heap[Bd]? = some (.cells #[.int .u64 z0, .int .u64 z1, .int .u64 z2, .int .u64 z3, .int .u64 z4, .int .u64 z5] 26 (0, 0)) := blk_call huA (by first | (with_reducible exact Hd10.out) | (with_reducible exact blk_drew Hd10.out)); have Yo : uA.heap[Bo]? = some (.cells #[.int .u64 y0, .int .u64 y1, .int .u64 y2, .int .u64 y3, .int .u64 y4] 29 (0, 0)) := blk_call huA (by first | (with_reducible exact Ho10.out) | (with_reducible exact blk_drew Ho10.out)); have Yk : uA.heap[Bk]? = some (.cells #[.int .u64 z0, .int .u64 z1, .int .u64 z2, .int .u64 z3, .int .u64 z4, .int .u64 z5] 34 (0, 0)) := blk_call huA (by first | (with_reducible exact Hk10.out) | (with_reducible exact blk_drew Hk10.out)); have Ye : uA.heap[Be]? = some (.cells #[.int .u64 ad, .int .u64 an, .int .i64 ak] 39 (0, 0)) := blk_call huA (by first | (with_reducible exact He10.out) | (with_reducible exact blk_drew He10.out)); have YB := bel_call huA (show Below w.heap.size w _ by first | (with_reducible exact HB10.out) | (with_reducible exact HB10.out.drew)) (by have := HB10.out.size; first | omega | (simp; omega)); obtain ⟨o0q, o1q, o2q, o3q, o4q, of0q, of1q, of2q, of3q, of4q⟩ := at5 Yo; have olq := lt_blk Yo; obtain ⟨k0q, k1q, k2q, k3q, k4q, k5q, kf0q, kf1q, kf2q, kf3q, kf4q, kf5q⟩ := at6 Yk; have klq := lt_blk Yk; have HS131 := Lib.hid (show uA.cell? ⟨Be, 0, none⟩ = some (.int .u64 ad) from cell_blk Ye 0 rfl); have Hc131 := Lib.hid Yc; have Hd131 := Lib.hid Yd; have Ho131 := Lib.hid Yo; have Hk131 := Lib.hid Yk; have He131 := Lib.hid Ye; have HB131 := Lib.hid YB; clear huA YB Yc Yd Yo Yk Ye)
              refine hK.out _ _ (HS131.out) (fun hHeld => ?_)
              clear hK KQ
              try simp only [List.getElem_toArray, List.getElem_cons_succ, List.getElem_cons_zero, Act.put, List.setIfInBounds_toArray, List.set_cons_zero, List.set_cons_succ]
              refine wpAnyH_norm (n := 3) (l := #[true, true, true, true, true, true, true, false, false, false]) (by kernel_rfl) (by kernel_rfl) ?_
              refine wpAnyH_ready (rs := [7]) (by kernel_rfl) (by simp) ?_
              refine (cons_list (o := _) rfl (fun KQ hK => ?_) AllReadyH.nil)
              rw [if_pos (by rfl)]
              go_wp2_with (go_at_call 17; (with_reducible refine (T2.out _).mono ?_); rintro e uB ⟨rfl, huB⟩; have Yc : uB.heap[Bc]? = some (.cells #[.int .u64 y0, .int .u64 y1, .int .u64 y2, .int .u64 y3, .int .u64 y4] 24 (0, 0)) := blk_call huB (by first | (with_reducible exact Hc131.out) | (with_reducible exact blk_drew Hc131.out)); have Yd : uB.heap[Bd]? = some (.cells #[.int .u64 z0, .int .u64 z1, .int .u64 z2, .int .u64 z3, .int .u64 z4, .int .u64 z5] 26 (0, 0)) := blk_call huB (by first | (with_reducible exact Hd131.out) | (with_reducible exact blk_drew Hd131.out)); have Yo : uB.heap[Bo]? = some (.cells #[.int .u64 y0, .int .u64 y1, .int .u64 y2, .int .u64 y3, .int .u64 y4] 29 (0, 0)) := blk_call huB (by first | (with_reducible exact Ho131.out) | (with_reducible exact blk_drew Ho131.out)); have Yk : uB.heap[Bk]? = some (.cells #[.int .u64 z0, .int .u64 z1, .int .u64 z2, .int .u64 z3, .int .u64 z4, .int .u64 z5] 34 (0, 0)) := blk_call huB (by first | (with_reducible exact Hk131.out) | (with_reducible exact blk_drew Hk131.out)); have Ye : uB.heap[Be]? = some (.cells #[.int .u64 ad, .int .u64 an, .int .i64 ak] 39 (0, 0)) := blk_call huB (by first | (with_reducible exact He131.out) | (with_reducible exact blk_drew He131.out)); have YB := bel_call huB (show Below w.heap.size w _ by first | (with_reducible exact HB131.out) | (with_reducible exact HB131.out.drew)) (by have := HB131.out.size; first | omega | (simp; omega)); clear o0q o1q o2q o3q o4q of0q of1q of2q of3q of4q olq k0q k1q k2q k3q k4q k5q kf0q kf1q kf2q kf3q kf4q kf5q klq; obtain ⟨o0q, o1q, o2q, o3q, o4q, of0q, of1q, of2q, of3q, of4q⟩ := at5 Yo; have olq := lt_blk Yo; obtain ⟨k0q, k1q, k2q, k3q, k4q, k5q, kf0q, kf1q, kf2q, kf3q, kf4q, kf5q⟩ := at6 Yk; have klq := lt_blk Yk; have HS132 := Lib.hid (show uB.cell? ⟨Be, 0, none⟩ = some (.int .u64 ad) from cell_blk Ye 0 rfl); have Hc132 := Lib.hid Yc; have Hd132 := Lib.hid Yd; have Ho132 := Lib.hid Yo; have Hk132 := Lib.hid Yk; have He132 := Lib.hid Ye; have HB132 := Lib.hid YB; clear huB YB Yc Yd Yo Yk Ye)
              refine hK.out _ _ (HS132.out) (fun hHeld => ?_)
              clear hK KQ
              try simp only [List.getElem_toArray, List.getElem_cons_succ, List.getElem_cons_zero, Act.put, List.setIfInBounds_toArray, List.set_cons_zero, List.set_cons_succ]
              refine wpAnyH_norm (n := 2) (l := #[true, true, true, true, true, true, true, true, false, false]) (by kernel_rfl) (by kernel_rfl) ?_
              refine wpAnyH_ready (rs := [8]) (by kernel_rfl) (by simp) ?_
              refine (cons_list (o := _) rfl (fun KQ hK => ?_) AllReadyH.nil)
              rw [if_pos (by rfl)]
              go_simp
              refine hK.out _ _ (KTA.out _ _ _ _ _ _ HS132.out) (fun hHeld => ?_)
              clear hK KQ
              try simp only [List.getElem_toArray, List.getElem_cons_succ, List.getElem_cons_zero, Act.put, List.setIfInBounds_toArray, List.set_cons_zero, List.set_cons_succ]
              refine wpAnyH_norm (n := 1) (l := #[true, true, true, true, true, true, true, true, true, false]) (by kernel_rfl) (by kernel_rfl) ?_
              refine wpAnyH_ready (rs := [9]) (by kernel_rfl) (by simp) ?_
              refine (cons_list (o := _) rfl (fun KQ hK => ?_) AllReadyH.nil)
              rw [if_pos (by rfl)]
              go_simp
              refine hK.out _ _ (KTB.out _ _ _ _ _ _ _ (KTA.out _ _ _ _ _ _ HS132.out)) (fun hHeld => ?_)
              clear hK KQ
              try simp only [List.getElem_toArray, List.getElem_cons_succ, List.getElem_cons_zero, Act.put, List.setIfInBounds_toArray, List.set_cons_zero, List.set_cons_succ]
              refine wpAnyH_norm (n := 0) (l := #[true, true, true, true, true, true, true, true, true, true]) (by kernel_rfl) (by kernel_rfl) ?_
              refine wpAnyH_done (by kernel_rfl) ?_ _
              refine NoPanic.normal ?_
              go_wp2
              go_meet
              refine ⟨?_, ?_, ?_, ?_, ?_, ?_⟩
              · (repeat' (first | (with_reducible exact Hc132.out) | (with_reducible exact heap_alloc_new _ _) | (with_reducible exact blk_new (by first | (simp; done) | omega)) | (with_reducible refine blk_drew ?_) | (with_reducible apply put1_0) | (with_reducible apply put2_0) | (with_reducible apply put2_1) | (with_reducible apply put3_0) | (with_reducible apply put3_1) | (with_reducible apply put3_2) | (with_reducible apply put4_0) | (with_reducible apply put4_1) | (with_reducible apply put4_2) | (with_reducible apply put4_3) | (with_reducible apply put5_0) | (with_reducible apply put5_1) | (with_reducible apply put5_2) | (with_reducible apply put5_3) | (with_reducible apply put5_4) | (with_reducible apply put6_0) | (with_reducible apply put6_1) | (with_reducible apply put6_2) | (with_reducible apply put6_3) | (with_reducible apply put6_4) | (with_reducible apply put6_5) | (with_reducible refine blk_else (by omega) ?_) | (with_reducible refine blk_old ?_)))
              · (repeat' (first | (with_reducible exact Hd132.out) | (with_reducible exact heap_alloc_new _ _) | (with_reducible exact blk_new (by first | (simp; done) | omega)) | (with_reducible refine blk_drew ?_) | (with_reducible apply put1_0) | (with_reducible apply put2_0) | (with_reducible apply put2_1) | (with_reducible apply put3_0) | (with_reducible apply put3_1) | (with_reducible apply put3_2) | (with_reducible apply put4_0) | (with_reducible apply put4_1) | (with_reducible apply put4_2) | (with_reducible apply put4_3) | (with_reducible apply put5_0) | (with_reducible apply put5_1) | (with_reducible apply put5_2) | (with_reducible apply put5_3) | (with_reducible apply put5_4) | (with_reducible apply put6_0) | (with_reducible apply put6_1) | (with_reducible apply put6_2) | (with_reducible apply put6_3) | (with_reducible apply put6_4) | (with_reducible apply put6_5) | (with_reducible refine blk_else (by omega) ?_) | (with_reducible refine blk_old ?_)))
              · (repeat' (first | (with_reducible exact Ho132.out) | (with_reducible exact heap_alloc_new _ _) | (with_reducible exact blk_new (by first | (simp; done) | omega)) | (with_reducible refine blk_drew ?_) | (with_reducible apply put1_0) | (with_reducible apply put2_0) | (with_reducible apply put2_1) | (with_reducible apply put3_0) | (with_reducible apply put3_1) | (with_reducible apply put3_2) | (with_reducible apply put4_0) | (with_reducible apply put4_1) | (with_reducible apply put4_2) | (with_reducible apply put4_3) | (with_reducible apply put5_0) | (with_reducible apply put5_1) | (with_reducible apply put5_2) | (with_reducible apply put5_3) | (with_reducible apply put5_4) | (with_reducible apply put6_0) | (with_reducible apply put6_1) | (with_reducible apply put6_2) | (with_reducible apply put6_3) | (with_reducible apply put6_4) | (with_reducible apply put6_5) | (with_reducible refine blk_else (by omega) ?_) | (with_reducible refine blk_old ?_)))
              · (repeat' (first | (with_reducible exact Hk132.out) | (with_reducible exact heap_alloc_new _ _) | (with_reducible exact blk_new (by first | (simp; done) | omega)) | (with_reducible refine blk_drew ?_) | (with_reducible apply put1_0) | (with_reducible apply put2_0) | (with_reducible apply put2_1) | (with_reducible apply put3_0) | (with_reducible apply put3_1) | (with_reducible apply put3_2) | (with_reducible apply put4_0) | (with_reducible apply put4_1) | (with_reducible apply put4_2) | (with_reducible apply put4_3) | (with_reducible apply put5_0) | (with_reducible apply put5_1) | (with_reducible apply put5_2) | (with_reducible apply put5_3) | (with_reducible apply put5_4) | (with_reducible apply put6_0) | (with_reducible apply put6_1) | (with_reducible apply put6_2) | (with_reducible apply put6_3) | (with_reducible apply put6_4) | (with_reducible apply put6_5) | (with_reducible refine blk_else (by omega) ?_) | (with_reducible refine blk_old ?_)))
              · (repeat' (first | (with_reducible exact He132.out) | (with_reducible exact heap_alloc_new _ _) | (with_reducible exact blk_new (by first | (simp; done) | omega)) | (with_reducible refine blk_drew ?_) | (with_reducible apply put1_0) | (with_reducible apply put2_0) | (with_reducible apply put2_1) | (with_reducible apply put3_0) | (with_reducible apply put3_1) | (with_reducible apply put3_2) | (with_reducible apply put4_0) | (with_reducible apply put4_1) | (with_reducible apply put4_2) | (with_reducible apply put4_3) | (with_reducible apply put5_0) | (with_reducible apply put5_1) | (with_reducible apply put5_2) | (with_reducible apply put5_3) | (with_reducible apply put5_4) | (with_reducible apply put6_0) | (with_reducible apply put6_1) | (with_reducible apply put6_2) | (with_reducible apply put6_3) | (with_reducible apply put6_4) | (with_reducible apply put6_5) | (with_reducible refine blk_else (by omega) ?_) | (with_reducible refine blk_old ?_)))
              · (repeat' (first | (with_reducible exact HB132.out) | (with_reducible exact Below.refl _ _) | (with_reducible refine below_drewN _ ?_) | (with_reducible refine Below.drew ?_) | (with_reducible refine Below.setCell ?_ (by first | (simp; done) | omega) _) | (with_reducible refine Below.alloc ?_ (by have := HB132.out.size; simp; omega) _)))
          · rw [if_pos (by rfl)]
            go_simp
            refine hK.out _ _ (e0_) (fun hHeld => ?_)
            clear hK KQ
            try simp only [List.getElem_toArray, List.getElem_cons_succ, List.getElem_cons_zero, Act.put, List.setIfInBounds_toArray, List.set_cons_zero, List.set_cons_succ]
            refine wpAnyH_norm (n := 5) (l := #[false, true, true, false, true, true, true, false, false, false]) (by kernel_rfl) (by kernel_rfl) ?_
            refine wpAnyH_ready (rs := [0]) (by kernel_rfl) (by simp) ?_
            refine (cons_list (o := _) rfl (fun KQ hK => ?_) AllReadyH.nil)
            rw [if_pos (by rfl)]
            go_simp
            refine hK.out _ _ (e0_) (fun hHeld => ?_)
            clear hK KQ
            try simp only [List.getElem_toArray, List.getElem_cons_succ, List.getElem_cons_zero, Act.put, List.setIfInBounds_toArray, List.set_cons_zero, List.set_cons_succ]
            refine wpAnyH_norm (n := 4) (l := #[true, true, true, false, true, true, true, false, false, false]) (by kernel_rfl) (by kernel_rfl) ?_
            refine wpAnyH_ready (rs := [3]) (by kernel_rfl) (by simp) ?_
            refine (cons_list (o := _) rfl (fun KQ hK => ?_) AllReadyH.nil)
            rw [if_pos (by rfl)]
            go_wp2_with (go_at_call 16; (with_reducible refine (T1.out _).mono ?_); rintro e uA ⟨rfl, huA⟩; have Yc : uA.heap[Bc]? = some (.cells #[.int .u64 y0, .int .u64 y1, .int .u64 y2, .int .u64 y3, .int .u64 y4] 24 (0, 0)) := blk_call huA (by first | (with_reducible exact Hc10.out) | (with_reducible exact blk_drew Hc10.out)); have Yd : uA.heap[Bd]? = some (.cells #[.int .u64 z0, .int .u64 z1, .int .u64 z2, .int .u64 z3, .int .u64 z4, .int .u64 z5] 26 (0, 0)) := blk_call huA (by first | (with_reducible exact Hd10.out) | (with_reducible exact blk_drew Hd10.out)); have Yo : uA.heap[Bo]? = some (.cells #[.int .u64 y0, .int .u64 y1, .int .u64 y2, .int .u64 y3, .int .u64 y4] 29 (0, 0)) := blk_call huA (by first | (with_reducible exact Ho10.out) | (with_reducible exact blk_drew Ho10.out)); have Yk : uA.heap[Bk]? = some (.cells #[.int .u64 z0, .int .u64 z1, .int .u64 z2, .int .u64 z3, .int .u64 z4, .int .u64 z5] 34 (0, 0)) := blk_call huA (by first | (with_reducible exact Hk10.out) | (with_reducible exact blk_drew Hk10.out)); have Ye : uA.heap[Be]? = some (.cells #[.int .u64 ad, .int .u64 an, .int .i64 ak] 39 (0, 0)) := blk_call huA (by first | (with_reducible exact He10.out) | (with_reducible exact blk_drew He10.out)); have YB := bel_call huA (show Below w.heap.size w _ by first | (with_reducible exact HB10.out) | (with_reducible exact HB10.out.drew)) (by have := HB10.out.size; first | omega | (simp; omega)); obtain ⟨o0q, o1q, o2q, o3q, o4q, of0q, of1q, of2q, of3q, of4q⟩ := at5 Yo; have olq := lt_blk Yo; obtain ⟨k0q, k1q, k2q, k3q, k4q, k5q, kf0q, kf1q, kf2q, kf3q, kf4q, kf5q⟩ := at6 Yk; have klq := lt_blk Yk; have HS131 := Lib.hid (show uA.cell? ⟨Be, 0, none⟩ = some (.int .u64 ad) from cell_blk Ye 0 rfl); have Hc131 := Lib.hid Yc; have Hd131 := Lib.hid Yd; have Ho131 := Lib.hid Yo; have Hk131 := Lib.hid Yk; have He131 := Lib.hid Ye; have HB131 := Lib.hid YB; clear huA YB Yc Yd Yo Yk Ye)
            refine hK.out _ _ (HS131.out) (fun hHeld => ?_)
            clear hK KQ
            try simp only [List.getElem_toArray, List.getElem_cons_succ, List.getElem_cons_zero, Act.put, List.setIfInBounds_toArray, List.set_cons_zero, List.set_cons_succ]
            refine wpAnyH_norm (n := 3) (l := #[true, true, true, true, true, true, true, false, false, false]) (by kernel_rfl) (by kernel_rfl) ?_
            refine wpAnyH_ready (rs := [7]) (by kernel_rfl) (by simp) ?_
            refine (cons_list (o := _) rfl (fun KQ hK => ?_) AllReadyH.nil)
            rw [if_pos (by rfl)]
            go_wp2_with (go_at_call 17; (with_reducible refine (T2.out _).mono ?_); rintro e uB ⟨rfl, huB⟩; have Yc : uB.heap[Bc]? = some (.cells #[.int .u64 y0, .int .u64 y1, .int .u64 y2, .int .u64 y3, .int .u64 y4] 24 (0, 0)) := blk_call huB (by first | (with_reducible exact Hc131.out) | (with_reducible exact blk_drew Hc131.out)); have Yd : uB.heap[Bd]? = some (.cells #[.int .u64 z0, .int .u64 z1, .int .u64 z2, .int .u64 z3, .int .u64 z4, .int .u64 z5] 26 (0, 0)) := blk_call huB (by first | (with_reducible exact Hd131.out) | (with_reducible exact blk_drew Hd131.out)); have Yo : uB.heap[Bo]? = some (.cells #[.int .u64 y0, .int .u64 y1, .int .u64 y2, .int .u64 y3, .int .u64 y4] 29 (0, 0)) := blk_call huB (by first | (with_reducible exact Ho131.out) | (with_reducible exact blk_drew Ho131.out)); have Yk : uB.heap[Bk]? = some (.cells #[.int .u64 z0, .int .u64 z1, .int .u64 z2, .int .u64 z3, .int .u64 z4, .int .u64 z5] 34 (0, 0)) := blk_call huB (by first | (with_reducible exact Hk131.out) | (with_reducible exact blk_drew Hk131.out)); have Ye : uB.heap[Be]? = some (.cells #[.int .u64 ad, .int .u64 an, .int .i64 ak] 39 (0, 0)) := blk_call huB (by first | (with_reducible exact He131.out) | (with_reducible exact blk_drew He131.out)); have YB := bel_call huB (show Below w.heap.size w _ by first | (with_reducible exact HB131.out) | (with_reducible exact HB131.out.drew)) (by have := HB131.out.size; first | omega | (simp; omega)); clear o0q o1q o2q o3q o4q of0q of1q of2q of3q of4q olq k0q k1q k2q k3q k4q k5q kf0q kf1q kf2q kf3q kf4q kf5q klq; obtain ⟨o0q, o1q, o2q, o3q, o4q, of0q, of1q, of2q, of3q, of4q⟩ := at5 Yo; have olq := lt_blk Yo; obtain ⟨k0q, k1q, k2q, k3q, k4q, k5q, kf0q, kf1q, kf2q, kf3q, kf4q, kf5q⟩ := at6 Yk; have klq := lt_blk Yk; have HS132 := Lib.hid (show uB.cell? ⟨Be, 0, none⟩ = some (.int .u64 ad) from cell_blk Ye 0 rfl); have Hc132 := Lib.hid Yc; have Hd132 := Lib.hid Yd; have Ho132 := Lib.hid Yo; have Hk132 := Lib.hid Yk; have He132 := Lib.hid Ye; have HB132 := Lib.hid YB; clear huB YB Yc Yd Yo Yk Ye)
            refine hK.out _ _ (HS132.out) (fun hHeld => ?_)
            clear hK KQ
            try simp only [List.getElem_toArray, List.getElem_cons_succ, List.getElem_cons_zero, Act.put, List.setIfInBounds_toArray, List.set_cons_zero, List.set_cons_succ]
            refine wpAnyH_norm (n := 2) (l := #[true, true, true, true, true, true, true, true, false, false]) (by kernel_rfl) (by kernel_rfl) ?_
            refine wpAnyH_ready (rs := [8]) (by kernel_rfl) (by simp) ?_
            refine (cons_list (o := _) rfl (fun KQ hK => ?_) AllReadyH.nil)
            rw [if_pos (by rfl)]
            go_simp
            refine hK.out _ _ (KTA.out _ _ _ _ _ _ HS132.out) (fun hHeld => ?_)
            clear hK KQ
            try simp only [List.getElem_toArray, List.getElem_cons_succ, List.getElem_cons_zero, Act.put, List.setIfInBounds_toArray, List.set_cons_zero, List.set_cons_succ]
            refine wpAnyH_norm (n := 1) (l := #[true, true, true, true, true, true, true, true, true, false]) (by kernel_rfl) (by kernel_rfl) ?_
            refine wpAnyH_ready (rs := [9]) (by kernel_rfl) (by simp) ?_
            refine (cons_list (o := _) rfl (fun KQ hK => ?_) AllReadyH.nil)
            rw [if_pos (by rfl)]
            go_simp
            refine hK.out _ _ (KTB.out _ _ _ _ _ _ _ (KTA.out _ _ _ _ _ _ HS132.out)) (fun hHeld => ?_)
            clear hK KQ
            try simp only [List.getElem_toArray, List.getElem_cons_succ, List.getElem_cons_zero, Act.put, List.setIfInBounds_toArray, List.set_cons_zero, List.set_cons_succ]
            refine wpAnyH_norm (n := 0) (l := #[true, true, true, true, true, true, true, true, true, true]) (by kernel_rfl) (by kernel_rfl) ?_
            refine wpAnyH_done (by kernel_rfl) ?_ _
            refine NoPanic.normal ?_
            go_wp2
            go_meet
            refine ⟨?_, ?_, ?_, ?_, ?_, ?_⟩
            · (repeat' (first | (with_reducible exact Hc132.out) | (with_reducible exact heap_alloc_new _ _) | (with_reducible exact blk_new (by first | (simp; done) | omega)) | (with_reducible refine blk_drew ?_) | (with_reducible apply put1_0) | (with_reducible apply put2_0) | (with_reducible apply put2_1) | (with_reducible apply put3_0) | (with_reducible apply put3_1) | (with_reducible apply put3_2) | (with_reducible apply put4_0) | (with_reducible apply put4_1) | (with_reducible apply put4_2) | (with_reducible apply put4_3) | (with_reducible apply put5_0) | (with_reducible apply put5_1) | (with_reducible apply put5_2) | (with_reducible apply put5_3) | (with_reducible apply put5_4) | (with_reducible apply put6_0) | (with_reducible apply put6_1) | (with_reducible apply put6_2) | (with_reducible apply put6_3) | (with_reducible apply put6_4) | (with_reducible apply put6_5) | (with_reducible refine blk_else (by omega) ?_) | (with_reducible refine blk_old ?_)))
            · (repeat' (first | (with_reducible exact Hd132.out) | (with_reducible exact heap_alloc_new _ _) | (with_reducible exact blk_new (by first | (simp; done) | omega)) | (with_reducible refine blk_drew ?_) | (with_reducible apply put1_0) | (with_reducible apply put2_0) | (with_reducible apply put2_1) | (with_reducible apply put3_0) | (with_reducible apply put3_1) | (with_reducible apply put3_2) | (with_reducible apply put4_0) | (with_reducible apply put4_1) | (with_reducible apply put4_2) | (with_reducible apply put4_3) | (with_reducible apply put5_0) | (with_reducible apply put5_1) | (with_reducible apply put5_2) | (with_reducible apply put5_3) | (with_reducible apply put5_4) | (with_reducible apply put6_0) | (with_reducible apply put6_1) | (with_reducible apply put6_2) | (with_reducible apply put6_3) | (with_reducible apply put6_4) | (with_reducible apply put6_5) | (with_reducible refine blk_else (by omega) ?_) | (with_reducible refine blk_old ?_)))
            · (repeat' (first | (with_reducible exact Ho132.out) | (with_reducible exact heap_alloc_new _ _) | (with_reducible exact blk_new (by first | (simp; done) | omega)) | (with_reducible refine blk_drew ?_) | (with_reducible apply put1_0) | (with_reducible apply put2_0) | (with_reducible apply put2_1) | (with_reducible apply put3_0) | (with_reducible apply put3_1) | (with_reducible apply put3_2) | (with_reducible apply put4_0) | (with_reducible apply put4_1) | (with_reducible apply put4_2) | (with_reducible apply put4_3) | (with_reducible apply put5_0) | (with_reducible apply put5_1) | (with_reducible apply put5_2) | (with_reducible apply put5_3) | (with_reducible apply put5_4) | (with_reducible apply put6_0) | (with_reducible apply put6_1) | (with_reducible apply put6_2) | (with_reducible apply put6_3) | (with_reducible apply put6_4) | (with_reducible apply put6_5) | (with_reducible refine blk_else (by omega) ?_) | (with_reducible refine blk_old ?_)))
            · (repeat' (first | (with_reducible exact Hk132.out) | (with_reducible exact heap_alloc_new _ _) | (with_reducible exact blk_new (by first | (simp; done) | omega)) | (with_reducible refine blk_drew ?_) | (with_reducible apply put1_0) | (with_reducible apply put2_0) | (with_reducible apply put2_1) | (with_reducible apply put3_0) | (with_reducible apply put3_1) | (with_reducible apply put3_2) | (with_reducible apply put4_0) | (with_reducible apply put4_1) | (with_reducible apply put4_2) | (with_reducible apply put4_3) | (with_reducible apply put5_0) | (with_reducible apply put5_1) | (with_reducible apply put5_2) | (with_reducible apply put5_3) | (with_reducible apply put5_4) | (with_reducible apply put6_0) | (with_reducible apply put6_1) | (with_reducible apply put6_2) | (with_reducible apply put6_3) | (with_reducible apply put6_4) | (with_reducible apply put6_5) | (with_reducible refine blk_else (by omega) ?_) | (with_reducible refine blk_old ?_)))
            · (repeat' (first | (with_reducible exact He132.out) | (with_reducible exact heap_alloc_new _ _) | (with_reducible exact blk_new (by first | (simp; done) | omega)) | (with_reducible refine blk_drew ?_) | (with_reducible apply put1_0) | (with_reducible apply put2_0) | (with_reducible apply put2_1) | (with_reducible apply put3_0) | (with_reducible apply put3_1) | (with_reducible apply put3_2) | (with_reducible apply put4_0) | (with_reducible apply put4_1) | (with_reducible apply put4_2) | (with_reducible apply put4_3) | (with_reducible apply put5_0) | (with_reducible apply put5_1) | (with_reducible apply put5_2) | (with_reducible apply put5_3) | (with_reducible apply put5_4) | (with_reducible apply put6_0) | (with_reducible apply put6_1) | (with_reducible apply put6_2) | (with_reducible apply put6_3) | (with_reducible apply put6_4) | (with_reducible apply put6_5) | (with_reducible refine blk_else (by omega) ?_) | (with_reducible refine blk_old ?_)))
            · (repeat' (first | (with_reducible exact HB132.out) | (with_reducible exact Below.refl _ _) | (with_reducible refine below_drewN _ ?_) | (with_reducible refine Below.drew ?_) | (with_reducible refine Below.setCell ?_ (by first | (simp; done) | omega) _) | (with_reducible refine Below.alloc ?_ (by have := HB132.out.size; simp; omega) _)))
        obtain ⟨xc_, xd_, xo_, xk_, xe_, xb_⟩ := hcut
        generalize wc = W3 at *
        clear c0_ c1_ c2_ c3_ c4_ cf0_ cf1_ cf2_ cf3_ cf4_ cn_ cm_ cl_ d0_ d1_ d2_ d3_ d4_ d5_ df0_ df1_ df2_ df3_ df4_ df5_ dn_ dm_ dl_ o0_ o1_ o2_ o3_ o4_ of0_ of1_ of2_ of3_ of4_ on_ om_ ol_ k0_ k1_ k2_ k3_ k4_ k5_ kf0_ kf1_ kf2_ kf3_ kf4_ kf5_ kn_ km_ kl_ e0_ e1_ e2_ ef0_ ef1_ ef2_ en_ em_ el_ Hc10 Hd10 Ho10 Hk10 He10 HB10
        have Hc13 := Lib.hid xc_; have Hd13 := Lib.hid xd_; have Ho13 := Lib.hid xo_; have Hk13 := Lib.hid xk_; have He13 := Lib.hid xe_; have HB13 := Lib.hid xb_
        clear xc_ xd_ xo_ xk_ xe_ xb_
        obtain ⟨c0_, c1_, c2_, c3_, c4_, cf0_, cf1_, cf2_, cf3_, cf4_⟩ := at5 Hc13.out
        have cn_ := ne_blk Hc13.out
        have cm_ := Ne.symm (a := Bc) cn_
        have cl_ := lt_blk Hc13.out
        obtain ⟨d0_, d1_, d2_, d3_, d4_, d5_, df0_, df1_, df2_, df3_, df4_, df5_⟩ := at6 Hd13.out
        have dn_ := ne_blk Hd13.out
        have dm_ := Ne.symm (a := Bd) dn_
        have dl_ := lt_blk Hd13.out
        obtain ⟨o0_, o1_, o2_, o3_, o4_, of0_, of1_, of2_, of3_, of4_⟩ := at5 Ho13.out
        have on_ := ne_blk Ho13.out
        have om_ := Ne.symm (a := Bo) on_
        have ol_ := lt_blk Ho13.out
        obtain ⟨k0_, k1_, k2_, k3_, k4_, k5_, kf0_, kf1_, kf2_, kf3_, kf4_, kf5_⟩ := at6 Hk13.out
        have kn_ := ne_blk Hk13.out
        have km_ := Ne.symm (a := Bk) kn_
        have kl_ := lt_blk Hk13.out
        obtain ⟨e0_, e1_, e2_, ef0_, ef1_, ef2_⟩ := at3 He13.out
        have en_ := ne_blk He13.out
        have em_ := Ne.symm (a := Be) en_
        have el_ := lt_blk He13.out
        go_upto_region 14 with (fail)
        go_cut [160] (fun e_ wx => wx.heap[Bc]? = some (.cells #[.int .u64 p0, .int .u64 p1, .int .u64 p2, .int .u64 p3, .int .u64 p4] 24 (0, 0)) ∧ wx.heap[Bd]? = some (.cells #[.int .u64 u0, .int .u64 u1, .int .u64 u2, .int .u64 u3, .int .u64 u4, .int .u64 u5] 26 (0, 0)) ∧ wx.heap[Bo]? = some (.cells #[.int .u64 p0, .int .u64 p1, .int .u64 p2, .int .u64 p3, .int .u64 p4] 29 (0, 0)) ∧ wx.heap[Bk]? = some (.cells #[.int .u64 u0, .int .u64 u1, .int .u64 u2, .int .u64 u3, .int .u64 u4, .int .u64 u5] 34 (0, 0)) ∧ wx.heap[Be]? = some (.cells #[.int .u64 ad, .int .u64 an, .int .i64 ak] 39 (0, 0)) ∧ Below w.heap.size w wx)
        case first =>
          have KTA := Lib.hid (fun (W : World) (x0_ x1_ x2_ x3_ x4_ : Value) (hS : W.cell? ⟨Be, 0, none⟩ = some (.int .u64 ad)) =>
            have ng : ∀ k q, (⟨Bc, k, none⟩ : Addr) ≠ ⟨Be, q, none⟩ := fun k q e => by injection e with e1 e2 e3; exact nce e1
            (((World.cell?_setCell_other _ ⟨Bc, 4, none⟩ ⟨Be, 0, none⟩ x4_ (ng 4 0)).trans ((World.cell?_setCell_other _ ⟨Bc, 3, none⟩ ⟨Be, 0, none⟩ x3_ (ng 3 0)).trans ((World.cell?_setCell_other _ ⟨Bc, 2, none⟩ ⟨Be, 0, none⟩ x2_ (ng 2 0)).trans ((World.cell?_setCell_other _ ⟨Bc, 1, none⟩ ⟨Be, 0, none⟩ x1_ (ng 1 0)).trans ((World.cell?_setCell_other _ ⟨Bc, 0, none⟩ ⟨Be, 0, none⟩ x0_ (ng 0 0)).trans hS))))) : (((((W.setCell ⟨Bc, 0, none⟩ x0_).setCell ⟨Bc, 1, none⟩ x1_).setCell ⟨Bc, 2, none⟩ x2_).setCell ⟨Bc, 3, none⟩ x3_).setCell ⟨Bc, 4, none⟩ x4_).cell? ⟨Be, 0, none⟩ = some (.int .u64 ad)))
          have KTB := Lib.hid (fun (W : World) (x0_ x1_ x2_ x3_ x4_ x5_ : Value) (hS : W.cell? ⟨Be, 0, none⟩ = some (.int .u64 ad)) =>
            have ng : ∀ k q, (⟨Bd, k, none⟩ : Addr) ≠ ⟨Be, q, none⟩ := fun k q e => by injection e with e1 e2 e3; exact nde e1
            (((World.cell?_setCell_other _ ⟨Bd, 5, none⟩ ⟨Be, 0, none⟩ x5_ (ng 5 0)).trans ((World.cell?_setCell_other _ ⟨Bd, 4, none⟩ ⟨Be, 0, none⟩ x4_ (ng 4 0)).trans ((World.cell?_setCell_other _ ⟨Bd, 3, none⟩ ⟨Be, 0, none⟩ x3_ (ng 3 0)).trans ((World.cell?_setCell_other _ ⟨Bd, 2, none⟩ ⟨Be, 0, none⟩ x2_ (ng 2 0)).trans ((World.cell?_setCell_other _ ⟨Bd, 1, none⟩ ⟨Be, 0, none⟩ x1_ (ng 1 0)).trans ((World.cell?_setCell_other _ ⟨Bd, 0, none⟩ ⟨Be, 0, none⟩ x0_ (ng 0 0)).trans hS)))))) : ((((((W.setCell ⟨Bd, 0, none⟩ x0_).setCell ⟨Bd, 1, none⟩ x1_).setCell ⟨Bd, 2, none⟩ x2_).setCell ⟨Bd, 3, none⟩ x3_).setCell ⟨Bd, 4, none⟩ x4_).setCell ⟨Bd, 5, none⟩ x5_).cell? ⟨Be, 0, none⟩ = some (.int .u64 ad)))
          refine wp_region_noPanic ?_
          refine wp_region_held_drew (S := fun v => v.cell? ⟨Be, 0, none⟩ = some (.int .u64 ad)) (by kernel_rfl) e0_ (fun hHeld => ?_)
          refine take_list (i := 1) (oi := _) (v := ?_) rfl (by kernel_rfl) (by kernel_rfl) (by kernel_rfl) (fun _ _ _ h => h) (Or.inl ⟨by rfl, ?_⟩) (by assumption) ?_
          rotate_left 1
          · intro v hSw
            (try dsimp only at hSw)
            go_simp
            try with_reducible rfl
          try simp only [List.getElem_toArray, List.getElem_cons_succ, List.getElem_cons_zero, Act.put, List.setIfInBounds_toArray, List.set_cons_zero, List.set_cons_succ]
          refine take_list (i := 2) (oi := _) (v := ?_) rfl (by kernel_rfl) (by kernel_rfl) (by kernel_rfl) (fun _ _ _ h => h) (Or.inl ⟨by rfl, ?_⟩) (by assumption) ?_
          rotate_left 1
          · intro v hSw
            (try dsimp only at hSw)
            go_simp
            try with_reducible rfl
          try simp only [List.getElem_toArray, List.getElem_cons_succ, List.getElem_cons_zero, Act.put, List.setIfInBounds_toArray, List.set_cons_zero, List.set_cons_succ]
          refine take_list (i := 5) (oi := _) (v := ?_) rfl (by kernel_rfl) (by kernel_rfl) (by kernel_rfl) (fun _ _ _ h => h) (Or.inl ⟨by rfl, ?_⟩) (by assumption) ?_
          rotate_left 1
          · intro v hSw
            (try dsimp only at hSw)
            go_simp
            try with_reducible rfl
          try simp only [List.getElem_toArray, List.getElem_cons_succ, List.getElem_cons_zero, Act.put, List.setIfInBounds_toArray, List.set_cons_zero, List.set_cons_succ]
          refine take_list (i := 6) (oi := _) (v := ?_) rfl (by kernel_rfl) (by kernel_rfl) (by kernel_rfl) (fun _ _ _ h => h) (Or.inl ⟨by rfl, ?_⟩) (by assumption) ?_
          rotate_left 1
          · intro v hSw
            (try dsimp only at hSw)
            go_simp
            try with_reducible rfl
          try simp only [List.getElem_toArray, List.getElem_cons_succ, List.getElem_cons_zero, Act.put, List.setIfInBounds_toArray, List.set_cons_zero, List.set_cons_succ]
          refine wpAnyH_norm (n := 6) (l := #[false, true, true, false, false, true, true, false, false, false]) (by kernel_rfl) (by kernel_rfl) ?_
          refine wpAnyH_ready (rs := [0, 4]) (by kernel_rfl) (by simp) ?_
          refine (cons_list (o := _) rfl (fun KQ hK => ?_) (cons_list (o := _) rfl (fun KQ hK => ?_) AllReadyH.nil))
          · rw [if_pos (by rfl)]
            go_simp
            refine hK.out _ _ (e0_) (fun hHeld => ?_)
            clear hK KQ
            try simp only [List.getElem_toArray, List.getElem_cons_succ, List.getElem_cons_zero, Act.put, List.setIfInBounds_toArray, List.set_cons_zero, List.set_cons_succ]
            refine wpAnyH_norm (n := 5) (l := #[true, true, true, false, false, true, true, false, false, false]) (by kernel_rfl) (by kernel_rfl) ?_
            refine wpAnyH_ready (rs := [3, 4]) (by kernel_rfl) (by simp) ?_
            refine (cons_list (o := _) rfl (fun KQ hK => ?_) (cons_list (o := _) rfl (fun KQ hK => ?_) AllReadyH.nil))
            · rw [if_pos (by rfl)]
              go_wp2_with (go_at_call 18; (with_reducible refine (T3.out _).mono ?_); rintro e uA ⟨rfl, huA⟩; have Yc : uA.heap[Bc]? = some (.cells #[.int .u64 y0, .int .u64 y1, .int .u64 y2, .int .u64 y3, .int .u64 y4] 24 (0, 0)) := blk_call huA (by first | (with_reducible exact Hc13.out) | (with_reducible exact blk_drew Hc13.out)); have Yd : uA.heap[Bd]? = some (.cells #[.int .u64 z0, .int .u64 z1, .int .u64 z2, .int .u64 z3, .int .u64 z4, .int .u64 z5] 26 (0, 0)) := blk_call huA (by first | (with_reducible exact Hd13.out) | (with_reducible exact blk_drew Hd13.out)); have Yo : uA.heap[Bo]? = some (.cells #[.int .u64 p0, .int .u64 p1, .int .u64 p2, .int .u64 p3, .int .u64 p4] 29 (0, 0)) := blk_call huA (by first | (with_reducible exact Ho13.out) | (with_reducible exact blk_drew Ho13.out)); have Yk : uA.heap[Bk]? = some (.cells #[.int .u64 u0, .int .u64 u1, .int .u64 u2, .int .u64 u3, .int .u64 u4, .int .u64 u5] 34 (0, 0)) := blk_call huA (by first | (with_reducible exact Hk13.out) | (with_reducible exact blk_drew Hk13.out)); have Ye : uA.heap[Be]? = some (.cells #[.int .u64 ad, .int .u64 an, .int .i64 ak] 39 (0, 0)) := blk_call huA (by first | (with_reducible exact He13.out) | (with_reducible exact blk_drew He13.out)); have YB := bel_call huA (show Below w.heap.size w _ by first | (with_reducible exact HB13.out) | (with_reducible exact HB13.out.drew)) (by have := HB13.out.size; first | omega | (simp; omega)); obtain ⟨c0q, c1q, c2q, c3q, c4q, cf0q, cf1q, cf2q, cf3q, cf4q⟩ := at5 Yc; have clq := lt_blk Yc; obtain ⟨d0q, d1q, d2q, d3q, d4q, d5q, df0q, df1q, df2q, df3q, df4q, df5q⟩ := at6 Yd; have dlq := lt_blk Yd; have HS141 := Lib.hid (show uA.cell? ⟨Be, 0, none⟩ = some (.int .u64 ad) from cell_blk Ye 0 rfl); have Hc141 := Lib.hid Yc; have Hd141 := Lib.hid Yd; have Ho141 := Lib.hid Yo; have Hk141 := Lib.hid Yk; have He141 := Lib.hid Ye; have HB141 := Lib.hid YB; clear huA YB Yc Yd Yo Yk Ye)
              refine hK.out _ _ (HS141.out) (fun hHeld => ?_)
              clear hK KQ
              try simp only [List.getElem_toArray, List.getElem_cons_succ, List.getElem_cons_zero, Act.put, List.setIfInBounds_toArray, List.set_cons_zero, List.set_cons_succ]
              refine wpAnyH_norm (n := 4) (l := #[true, true, true, true, false, true, true, false, false, false]) (by kernel_rfl) (by kernel_rfl) ?_
              refine wpAnyH_ready (rs := [4]) (by kernel_rfl) (by simp) ?_
              refine (cons_list (o := _) rfl (fun KQ hK => ?_) AllReadyH.nil)
              rw [if_pos (by rfl)]
              go_simp
              refine hK.out _ _ (HS141.out) (fun hHeld => ?_)
              clear hK KQ
              try simp only [List.getElem_toArray, List.getElem_cons_succ, List.getElem_cons_zero, Act.put, List.setIfInBounds_toArray, List.set_cons_zero, List.set_cons_succ]
              refine wpAnyH_norm (n := 3) (l := #[true, true, true, true, true, true, true, false, false, false]) (by kernel_rfl) (by kernel_rfl) ?_
              refine wpAnyH_ready (rs := [7]) (by kernel_rfl) (by simp) ?_
              refine (cons_list (o := _) rfl (fun KQ hK => ?_) AllReadyH.nil)
              rw [if_pos (by rfl)]
              go_wp2_with (go_at_call 19; (with_reducible refine (T4.out _).mono ?_); rintro e uB ⟨rfl, huB⟩; have Yc : uB.heap[Bc]? = some (.cells #[.int .u64 y0, .int .u64 y1, .int .u64 y2, .int .u64 y3, .int .u64 y4] 24 (0, 0)) := blk_call huB (by first | (with_reducible exact Hc141.out) | (with_reducible exact blk_drew Hc141.out)); have Yd : uB.heap[Bd]? = some (.cells #[.int .u64 z0, .int .u64 z1, .int .u64 z2, .int .u64 z3, .int .u64 z4, .int .u64 z5] 26 (0, 0)) := blk_call huB (by first | (with_reducible exact Hd141.out) | (with_reducible exact blk_drew Hd141.out)); have Yo : uB.heap[Bo]? = some (.cells #[.int .u64 p0, .int .u64 p1, .int .u64 p2, .int .u64 p3, .int .u64 p4] 29 (0, 0)) := blk_call huB (by first | (with_reducible exact Ho141.out) | (with_reducible exact blk_drew Ho141.out)); have Yk : uB.heap[Bk]? = some (.cells #[.int .u64 u0, .int .u64 u1, .int .u64 u2, .int .u64 u3, .int .u64 u4, .int .u64 u5] 34 (0, 0)) := blk_call huB (by first | (with_reducible exact Hk141.out) | (with_reducible exact blk_drew Hk141.out)); have Ye : uB.heap[Be]? = some (.cells #[.int .u64 ad, .int .u64 an, .int .i64 ak] 39 (0, 0)) := blk_call huB (by first | (with_reducible exact He141.out) | (with_reducible exact blk_drew He141.out)); have YB := bel_call huB (show Below w.heap.size w _ by first | (with_reducible exact HB141.out) | (with_reducible exact HB141.out.drew)) (by have := HB141.out.size; first | omega | (simp; omega)); clear c0q c1q c2q c3q c4q cf0q cf1q cf2q cf3q cf4q clq d0q d1q d2q d3q d4q d5q df0q df1q df2q df3q df4q df5q dlq; obtain ⟨c0q, c1q, c2q, c3q, c4q, cf0q, cf1q, cf2q, cf3q, cf4q⟩ := at5 Yc; have clq := lt_blk Yc; obtain ⟨d0q, d1q, d2q, d3q, d4q, d5q, df0q, df1q, df2q, df3q, df4q, df5q⟩ := at6 Yd; have dlq := lt_blk Yd; have HS142 := Lib.hid (show uB.cell? ⟨Be, 0, none⟩ = some (.int .u64 ad) from cell_blk Ye 0 rfl); have Hc142 := Lib.hid Yc; have Hd142 := Lib.hid Yd; have Ho142 := Lib.hid Yo; have Hk142 := Lib.hid Yk; have He142 := Lib.hid Ye; have HB142 := Lib.hid YB; clear huB YB Yc Yd Yo Yk Ye)
              refine hK.out _ _ (HS142.out) (fun hHeld => ?_)
              clear hK KQ
              try simp only [List.getElem_toArray, List.getElem_cons_succ, List.getElem_cons_zero, Act.put, List.setIfInBounds_toArray, List.set_cons_zero, List.set_cons_succ]
              refine wpAnyH_norm (n := 2) (l := #[true, true, true, true, true, true, true, true, false, false]) (by kernel_rfl) (by kernel_rfl) ?_
              refine wpAnyH_ready (rs := [8]) (by kernel_rfl) (by simp) ?_
              refine (cons_list (o := _) rfl (fun KQ hK => ?_) AllReadyH.nil)
              rw [if_pos (by rfl)]
              go_simp
              refine hK.out _ _ (KTA.out _ _ _ _ _ _ HS142.out) (fun hHeld => ?_)
              clear hK KQ
              try simp only [List.getElem_toArray, List.getElem_cons_succ, List.getElem_cons_zero, Act.put, List.setIfInBounds_toArray, List.set_cons_zero, List.set_cons_succ]
              refine wpAnyH_norm (n := 1) (l := #[true, true, true, true, true, true, true, true, true, false]) (by kernel_rfl) (by kernel_rfl) ?_
              refine wpAnyH_ready (rs := [9]) (by kernel_rfl) (by simp) ?_
              refine (cons_list (o := _) rfl (fun KQ hK => ?_) AllReadyH.nil)
              rw [if_pos (by rfl)]
              go_simp
              refine hK.out _ _ (KTB.out _ _ _ _ _ _ _ (KTA.out _ _ _ _ _ _ HS142.out)) (fun hHeld => ?_)
              clear hK KQ
              try simp only [List.getElem_toArray, List.getElem_cons_succ, List.getElem_cons_zero, Act.put, List.setIfInBounds_toArray, List.set_cons_zero, List.set_cons_succ]
              refine wpAnyH_norm (n := 0) (l := #[true, true, true, true, true, true, true, true, true, true]) (by kernel_rfl) (by kernel_rfl) ?_
              refine wpAnyH_done (by kernel_rfl) ?_ _
              refine NoPanic.normal ?_
              go_wp2
              go_meet
              refine ⟨?_, ?_, ?_, ?_, ?_, ?_⟩
              · (repeat' (first | (with_reducible exact Hc142.out) | (with_reducible exact heap_alloc_new _ _) | (with_reducible exact blk_new (by first | (simp; done) | omega)) | (with_reducible refine blk_drew ?_) | (with_reducible apply put1_0) | (with_reducible apply put2_0) | (with_reducible apply put2_1) | (with_reducible apply put3_0) | (with_reducible apply put3_1) | (with_reducible apply put3_2) | (with_reducible apply put4_0) | (with_reducible apply put4_1) | (with_reducible apply put4_2) | (with_reducible apply put4_3) | (with_reducible apply put5_0) | (with_reducible apply put5_1) | (with_reducible apply put5_2) | (with_reducible apply put5_3) | (with_reducible apply put5_4) | (with_reducible apply put6_0) | (with_reducible apply put6_1) | (with_reducible apply put6_2) | (with_reducible apply put6_3) | (with_reducible apply put6_4) | (with_reducible apply put6_5) | (with_reducible refine blk_else (by omega) ?_) | (with_reducible refine blk_old ?_)))
              · (repeat' (first | (with_reducible exact Hd142.out) | (with_reducible exact heap_alloc_new _ _) | (with_reducible exact blk_new (by first | (simp; done) | omega)) | (with_reducible refine blk_drew ?_) | (with_reducible apply put1_0) | (with_reducible apply put2_0) | (with_reducible apply put2_1) | (with_reducible apply put3_0) | (with_reducible apply put3_1) | (with_reducible apply put3_2) | (with_reducible apply put4_0) | (with_reducible apply put4_1) | (with_reducible apply put4_2) | (with_reducible apply put4_3) | (with_reducible apply put5_0) | (with_reducible apply put5_1) | (with_reducible apply put5_2) | (with_reducible apply put5_3) | (with_reducible apply put5_4) | (with_reducible apply put6_0) | (with_reducible apply put6_1) | (with_reducible apply put6_2) | (with_reducible apply put6_3) | (with_reducible apply put6_4) | (with_reducible apply put6_5) | (with_reducible refine blk_else (by omega) ?_) | (with_reducible refine blk_old ?_)))
              · (repeat' (first | (with_reducible exact Ho142.out) | (with_reducible exact heap_alloc_new _ _) | (with_reducible exact blk_new (by first | (simp; done) | omega)) | (with_reducible refine blk_drew ?_) | (with_reducible apply put1_0) | (with_reducible apply put2_0) | (with_reducible apply put2_1) | (with_reducible apply put3_0) | (with_reducible apply put3_1) | (with_reducible apply put3_2) | (with_reducible apply put4_0) | (with_reducible apply put4_1) | (with_reducible apply put4_2) | (with_reducible apply put4_3) | (with_reducible apply put5_0) | (with_reducible apply put5_1) | (with_reducible apply put5_2) | (with_reducible apply put5_3) | (with_reducible apply put5_4) | (with_reducible apply put6_0) | (with_reducible apply put6_1) | (with_reducible apply put6_2) | (with_reducible apply put6_3) | (with_reducible apply put6_4) | (with_reducible apply put6_5) | (with_reducible refine blk_else (by omega) ?_) | (with_reducible refine blk_old ?_)))
              · (repeat' (first | (with_reducible exact Hk142.out) | (with_reducible exact heap_alloc_new _ _) | (with_reducible exact blk_new (by first | (simp; done) | omega)) | (with_reducible refine blk_drew ?_) | (with_reducible apply put1_0) | (with_reducible apply put2_0) | (with_reducible apply put2_1) | (with_reducible apply put3_0) | (with_reducible apply put3_1) | (with_reducible apply put3_2) | (with_reducible apply put4_0) | (with_reducible apply put4_1) | (with_reducible apply put4_2) | (with_reducible apply put4_3) | (with_reducible apply put5_0) | (with_reducible apply put5_1) | (with_reducible apply put5_2) | (with_reducible apply put5_3) | (with_reducible apply put5_4) | (with_reducible apply put6_0) | (with_reducible apply put6_1) | (with_reducible apply put6_2) | (with_reducible apply put6_3) | (with_reducible apply put6_4) | (with_reducible apply put6_5) | (with_reducible refine blk_else (by omega) ?_) | (with_reducible refine blk_old ?_)))
              · (repeat' (first | (with_reducible exact He142.out) | (with_reducible exact heap_alloc_new _ _) | (with_reducible exact blk_new (by first | (simp; done) | omega)) | (with_reducible refine blk_drew ?_) | (with_reducible apply put1_0) | (with_reducible apply put2_0) | (with_reducible apply put2_1) | (with_reducible apply put3_0) | (with_reducible apply put3_1) | (with_reducible apply put3_2) | (with_reducible apply put4_0) | (with_reducible apply put4_1) | (with_reducible apply put4_2) | (with_reducible apply put4_3) | (with_reducible apply put5_0) | (with_reducible apply put5_1) | (with_reducible apply put5_2) | (with_reducible apply put5_3) | (with_reducible apply put5_4) | (with_reducible apply put6_0) | (with_reducible apply put6_1) | (with_reducible apply put6_2) | (with_reducible apply put6_3) | (with_reducible apply put6_4) | (with_reducible apply put6_5) | (with_reducible refine blk_else (by omega) ?_) | (with_reducible refine blk_old ?_)))
              · (repeat' (first | (with_reducible exact HB142.out) | (with_reducible exact Below.refl _ _) | (with_reducible refine below_drewN _ ?_) | (with_reducible refine Below.drew ?_) | (with_reducible refine Below.setCell ?_ (by first | (simp; done) | omega) _) | (with_reducible refine Below.alloc ?_ (by have := HB142.out.size; simp; omega) _)))
            · rw [if_pos (by rfl)]
              go_simp
              refine hK.out _ _ (e0_) (fun hHeld => ?_)
              clear hK KQ
              try simp only [List.getElem_toArray, List.getElem_cons_succ, List.getElem_cons_zero, Act.put, List.setIfInBounds_toArray, List.set_cons_zero, List.set_cons_succ]
              refine wpAnyH_norm (n := 4) (l := #[true, true, true, false, true, true, true, false, false, false]) (by kernel_rfl) (by kernel_rfl) ?_
              refine wpAnyH_ready (rs := [3]) (by kernel_rfl) (by simp) ?_
              refine (cons_list (o := _) rfl (fun KQ hK => ?_) AllReadyH.nil)
              rw [if_pos (by rfl)]
              go_wp2_with (go_at_call 18; (with_reducible refine (T3.out _).mono ?_); rintro e uA ⟨rfl, huA⟩; have Yc : uA.heap[Bc]? = some (.cells #[.int .u64 y0, .int .u64 y1, .int .u64 y2, .int .u64 y3, .int .u64 y4] 24 (0, 0)) := blk_call huA (by first | (with_reducible exact Hc13.out) | (with_reducible exact blk_drew Hc13.out)); have Yd : uA.heap[Bd]? = some (.cells #[.int .u64 z0, .int .u64 z1, .int .u64 z2, .int .u64 z3, .int .u64 z4, .int .u64 z5] 26 (0, 0)) := blk_call huA (by first | (with_reducible exact Hd13.out) | (with_reducible exact blk_drew Hd13.out)); have Yo : uA.heap[Bo]? = some (.cells #[.int .u64 p0, .int .u64 p1, .int .u64 p2, .int .u64 p3, .int .u64 p4] 29 (0, 0)) := blk_call huA (by first | (with_reducible exact Ho13.out) | (with_reducible exact blk_drew Ho13.out)); have Yk : uA.heap[Bk]? = some (.cells #[.int .u64 u0, .int .u64 u1, .int .u64 u2, .int .u64 u3, .int .u64 u4, .int .u64 u5] 34 (0, 0)) := blk_call huA (by first | (with_reducible exact Hk13.out) | (with_reducible exact blk_drew Hk13.out)); have Ye : uA.heap[Be]? = some (.cells #[.int .u64 ad, .int .u64 an, .int .i64 ak] 39 (0, 0)) := blk_call huA (by first | (with_reducible exact He13.out) | (with_reducible exact blk_drew He13.out)); have YB := bel_call huA (show Below w.heap.size w _ by first | (with_reducible exact HB13.out) | (with_reducible exact HB13.out.drew)) (by have := HB13.out.size; first | omega | (simp; omega)); obtain ⟨c0q, c1q, c2q, c3q, c4q, cf0q, cf1q, cf2q, cf3q, cf4q⟩ := at5 Yc; have clq := lt_blk Yc; obtain ⟨d0q, d1q, d2q, d3q, d4q, d5q, df0q, df1q, df2q, df3q, df4q, df5q⟩ := at6 Yd; have dlq := lt_blk Yd; have HS141 := Lib.hid (show uA.cell? ⟨Be, 0, none⟩ = some (.int .u64 ad) from cell_blk Ye 0 rfl); have Hc141 := Lib.hid Yc; have Hd141 := Lib.hid Yd; have Ho141 := Lib.hid Yo; have Hk141 := Lib.hid Yk; have He141 := Lib.hid Ye; have HB141 := Lib.hid YB; clear huA YB Yc Yd Yo Yk Ye)
              refine hK.out _ _ (HS141.out) (fun hHeld => ?_)
              clear hK KQ
              try simp only [List.getElem_toArray, List.getElem_cons_succ, List.getElem_cons_zero, Act.put, List.setIfInBounds_toArray, List.set_cons_zero, List.set_cons_succ]
              refine wpAnyH_norm (n := 3) (l := #[true, true, true, true, true, true, true, false, false, false]) (by kernel_rfl) (by kernel_rfl) ?_
              refine wpAnyH_ready (rs := [7]) (by kernel_rfl) (by simp) ?_
              refine (cons_list (o := _) rfl (fun KQ hK => ?_) AllReadyH.nil)
              rw [if_pos (by rfl)]
              go_wp2_with (go_at_call 19; (with_reducible refine (T4.out _).mono ?_); rintro e uB ⟨rfl, huB⟩; have Yc : uB.heap[Bc]? = some (.cells #[.int .u64 y0, .int .u64 y1, .int .u64 y2, .int .u64 y3, .int .u64 y4] 24 (0, 0)) := blk_call huB (by first | (with_reducible exact Hc141.out) | (with_reducible exact blk_drew Hc141.out)); have Yd : uB.heap[Bd]? = some (.cells #[.int .u64 z0, .int .u64 z1, .int .u64 z2, .int .u64 z3, .int .u64 z4, .int .u64 z5] 26 (0, 0)) := blk_call huB (by first | (with_reducible exact Hd141.out) | (with_reducible exact blk_drew Hd141.out)); have Yo : uB.heap[Bo]? = some (.cells #[.int .u64 p0, .int .u64 p1, .int .u64 p2, .int .u64 p3, .int .u64 p4] 29 (0, 0)) := blk_call huB (by first | (with_reducible exact Ho141.out) | (with_reducible exact blk_drew Ho141.out)); have Yk : uB.heap[Bk]? = some (.cells #[.int .u64 u0, .int .u64 u1, .int .u64 u2, .int .u64 u3, .int .u64 u4, .int .u64 u5] 34 (0, 0)) := blk_call huB (by first | (with_reducible exact Hk141.out) | (with_reducible exact blk_drew Hk141.out)); have Ye : uB.heap[Be]? = some (.cells #[.int .u64 ad, .int .u64 an, .int .i64 ak] 39 (0, 0)) := blk_call huB (by first | (with_reducible exact He141.out) | (with_reducible exact blk_drew He141.out)); have YB := bel_call huB (show Below w.heap.size w _ by first | (with_reducible exact HB141.out) | (with_reducible exact HB141.out.drew)) (by have := HB141.out.size; first | omega | (simp; omega)); clear c0q c1q c2q c3q c4q cf0q cf1q cf2q cf3q cf4q clq d0q d1q d2q d3q d4q d5q df0q df1q df2q df3q df4q df5q dlq; obtain ⟨c0q, c1q, c2q, c3q, c4q, cf0q, cf1q, cf2q, cf3q, cf4q⟩ := at5 Yc; have clq := lt_blk Yc; obtain ⟨d0q, d1q, d2q, d3q, d4q, d5q, df0q, df1q, df2q, df3q, df4q, df5q⟩ := at6 Yd; have dlq := lt_blk Yd; have HS142 := Lib.hid (show uB.cell? ⟨Be, 0, none⟩ = some (.int .u64 ad) from cell_blk Ye 0 rfl); have Hc142 := Lib.hid Yc; have Hd142 := Lib.hid Yd; have Ho142 := Lib.hid Yo; have Hk142 := Lib.hid Yk; have He142 := Lib.hid Ye; have HB142 := Lib.hid YB; clear huB YB Yc Yd Yo Yk Ye)
              refine hK.out _ _ (HS142.out) (fun hHeld => ?_)
              clear hK KQ
              try simp only [List.getElem_toArray, List.getElem_cons_succ, List.getElem_cons_zero, Act.put, List.setIfInBounds_toArray, List.set_cons_zero, List.set_cons_succ]
              refine wpAnyH_norm (n := 2) (l := #[true, true, true, true, true, true, true, true, false, false]) (by kernel_rfl) (by kernel_rfl) ?_
              refine wpAnyH_ready (rs := [8]) (by kernel_rfl) (by simp) ?_
              refine (cons_list (o := _) rfl (fun KQ hK => ?_) AllReadyH.nil)
              rw [if_pos (by rfl)]
              go_simp
              refine hK.out _ _ (KTA.out _ _ _ _ _ _ HS142.out) (fun hHeld => ?_)
              clear hK KQ
              try simp only [List.getElem_toArray, List.getElem_cons_succ, List.getElem_cons_zero, Act.put, List.setIfInBounds_toArray, List.set_cons_zero, List.set_cons_succ]
              refine wpAnyH_norm (n := 1) (l := #[true, true, true, true, true, true, true, true, true, false]) (by kernel_rfl) (by kernel_rfl) ?_
              refine wpAnyH_ready (rs := [9]) (by kernel_rfl) (by simp) ?_
              refine (cons_list (o := _) rfl (fun KQ hK => ?_) AllReadyH.nil)
              rw [if_pos (by rfl)]
              go_simp
              refine hK.out _ _ (KTB.out _ _ _ _ _ _ _ (KTA.out _ _ _ _ _ _ HS142.out)) (fun hHeld => ?_)
              clear hK KQ
              try simp only [List.getElem_toArray, List.getElem_cons_succ, List.getElem_cons_zero, Act.put, List.setIfInBounds_toArray, List.set_cons_zero, List.set_cons_succ]
              refine wpAnyH_norm (n := 0) (l := #[true, true, true, true, true, true, true, true, true, true]) (by kernel_rfl) (by kernel_rfl) ?_
              refine wpAnyH_done (by kernel_rfl) ?_ _
              refine NoPanic.normal ?_
              go_wp2
              go_meet
              refine ⟨?_, ?_, ?_, ?_, ?_, ?_⟩
              · (repeat' (first | (with_reducible exact Hc142.out) | (with_reducible exact heap_alloc_new _ _) | (with_reducible exact blk_new (by first | (simp; done) | omega)) | (with_reducible refine blk_drew ?_) | (with_reducible apply put1_0) | (with_reducible apply put2_0) | (with_reducible apply put2_1) | (with_reducible apply put3_0) | (with_reducible apply put3_1) | (with_reducible apply put3_2) | (with_reducible apply put4_0) | (with_reducible apply put4_1) | (with_reducible apply put4_2) | (with_reducible apply put4_3) | (with_reducible apply put5_0) | (with_reducible apply put5_1) | (with_reducible apply put5_2) | (with_reducible apply put5_3) | (with_reducible apply put5_4) | (with_reducible apply put6_0) | (with_reducible apply put6_1) | (with_reducible apply put6_2) | (with_reducible apply put6_3) | (with_reducible apply put6_4) | (with_reducible apply put6_5) | (with_reducible refine blk_else (by omega) ?_) | (with_reducible refine blk_old ?_)))
              · (repeat' (first | (with_reducible exact Hd142.out) | (with_reducible exact heap_alloc_new _ _) | (with_reducible exact blk_new (by first | (simp; done) | omega)) | (with_reducible refine blk_drew ?_) | (with_reducible apply put1_0) | (with_reducible apply put2_0) | (with_reducible apply put2_1) | (with_reducible apply put3_0) | (with_reducible apply put3_1) | (with_reducible apply put3_2) | (with_reducible apply put4_0) | (with_reducible apply put4_1) | (with_reducible apply put4_2) | (with_reducible apply put4_3) | (with_reducible apply put5_0) | (with_reducible apply put5_1) | (with_reducible apply put5_2) | (with_reducible apply put5_3) | (with_reducible apply put5_4) | (with_reducible apply put6_0) | (with_reducible apply put6_1) | (with_reducible apply put6_2) | (with_reducible apply put6_3) | (with_reducible apply put6_4) | (with_reducible apply put6_5) | (with_reducible refine blk_else (by omega) ?_) | (with_reducible refine blk_old ?_)))
              · (repeat' (first | (with_reducible exact Ho142.out) | (with_reducible exact heap_alloc_new _ _) | (with_reducible exact blk_new (by first | (simp; done) | omega)) | (with_reducible refine blk_drew ?_) | (with_reducible apply put1_0) | (with_reducible apply put2_0) | (with_reducible apply put2_1) | (with_reducible apply put3_0) | (with_reducible apply put3_1) | (with_reducible apply put3_2) | (with_reducible apply put4_0) | (with_reducible apply put4_1) | (with_reducible apply put4_2) | (with_reducible apply put4_3) | (with_reducible apply put5_0) | (with_reducible apply put5_1) | (with_reducible apply put5_2) | (with_reducible apply put5_3) | (with_reducible apply put5_4) | (with_reducible apply put6_0) | (with_reducible apply put6_1) | (with_reducible apply put6_2) | (with_reducible apply put6_3) | (with_reducible apply put6_4) | (with_reducible apply put6_5) | (with_reducible refine blk_else (by omega) ?_) | (with_reducible refine blk_old ?_)))
              · (repeat' (first | (with_reducible exact Hk142.out) | (with_reducible exact heap_alloc_new _ _) | (with_reducible exact blk_new (by first | (simp; done) | omega)) | (with_reducible refine blk_drew ?_) | (with_reducible apply put1_0) | (with_reducible apply put2_0) | (with_reducible apply put2_1) | (with_reducible apply put3_0) | (with_reducible apply put3_1) | (with_reducible apply put3_2) | (with_reducible apply put4_0) | (with_reducible apply put4_1) | (with_reducible apply put4_2) | (with_reducible apply put4_3) | (with_reducible apply put5_0) | (with_reducible apply put5_1) | (with_reducible apply put5_2) | (with_reducible apply put5_3) | (with_reducible apply put5_4) | (with_reducible apply put6_0) | (with_reducible apply put6_1) | (with_reducible apply put6_2) | (with_reducible apply put6_3) | (with_reducible apply put6_4) | (with_reducible apply put6_5) | (with_reducible refine blk_else (by omega) ?_) | (with_reducible refine blk_old ?_)))
              · (repeat' (first | (with_reducible exact He142.out) | (with_reducible exact heap_alloc_new _ _) | (with_reducible exact blk_new (by first | (simp; done) | omega)) | (with_reducible refine blk_drew ?_) | (with_reducible apply put1_0) | (with_reducible apply put2_0) | (with_reducible apply put2_1) | (with_reducible apply put3_0) | (with_reducible apply put3_1) | (with_reducible apply put3_2) | (with_reducible apply put4_0) | (with_reducible apply put4_1) | (with_reducible apply put4_2) | (with_reducible apply put4_3) | (with_reducible apply put5_0) | (with_reducible apply put5_1) | (with_reducible apply put5_2) | (with_reducible apply put5_3) | (with_reducible apply put5_4) | (with_reducible apply put6_0) | (with_reducible apply put6_1) | (with_reducible apply put6_2) | (with_reducible apply put6_3) | (with_reducible apply put6_4) | (with_reducible apply put6_5) | (with_reducible refine blk_else (by omega) ?_) | (with_reducible refine blk_old ?_)))
              · (repeat' (first | (with_reducible exact HB142.out) | (with_reducible exact Below.refl _ _) | (with_reducible refine below_drewN _ ?_) | (with_reducible refine Below.drew ?_) | (with_reducible refine Below.setCell ?_ (by first | (simp; done) | omega) _) | (with_reducible refine Below.alloc ?_ (by have := HB142.out.size; simp; omega) _)))
          · rw [if_pos (by rfl)]
            go_simp
            refine hK.out _ _ (e0_) (fun hHeld => ?_)
            clear hK KQ
            try simp only [List.getElem_toArray, List.getElem_cons_succ, List.getElem_cons_zero, Act.put, List.setIfInBounds_toArray, List.set_cons_zero, List.set_cons_succ]
            refine wpAnyH_norm (n := 5) (l := #[false, true, true, false, true, true, true, false, false, false]) (by kernel_rfl) (by kernel_rfl) ?_
            refine wpAnyH_ready (rs := [0]) (by kernel_rfl) (by simp) ?_
            refine (cons_list (o := _) rfl (fun KQ hK => ?_) AllReadyH.nil)
            rw [if_pos (by rfl)]
            go_simp
            refine hK.out _ _ (e0_) (fun hHeld => ?_)
            clear hK KQ
            try simp only [List.getElem_toArray, List.getElem_cons_succ, List.getElem_cons_zero, Act.put, List.setIfInBounds_toArray, List.set_cons_zero, List.set_cons_succ]
            refine wpAnyH_norm (n := 4) (l := #[true, true, true, false, true, true, true, false, false, false]) (by kernel_rfl) (by kernel_rfl) ?_
            refine wpAnyH_ready (rs := [3]) (by kernel_rfl) (by simp) ?_
            refine (cons_list (o := _) rfl (fun KQ hK => ?_) AllReadyH.nil)
            rw [if_pos (by rfl)]
            go_wp2_with (go_at_call 18; (with_reducible refine (T3.out _).mono ?_); rintro e uA ⟨rfl, huA⟩; have Yc : uA.heap[Bc]? = some (.cells #[.int .u64 y0, .int .u64 y1, .int .u64 y2, .int .u64 y3, .int .u64 y4] 24 (0, 0)) := blk_call huA (by first | (with_reducible exact Hc13.out) | (with_reducible exact blk_drew Hc13.out)); have Yd : uA.heap[Bd]? = some (.cells #[.int .u64 z0, .int .u64 z1, .int .u64 z2, .int .u64 z3, .int .u64 z4, .int .u64 z5] 26 (0, 0)) := blk_call huA (by first | (with_reducible exact Hd13.out) | (with_reducible exact blk_drew Hd13.out)); have Yo : uA.heap[Bo]? = some (.cells #[.int .u64 p0, .int .u64 p1, .int .u64 p2, .int .u64 p3, .int .u64 p4] 29 (0, 0)) := blk_call huA (by first | (with_reducible exact Ho13.out) | (with_reducible exact blk_drew Ho13.out)); have Yk : uA.heap[Bk]? = some (.cells #[.int .u64 u0, .int .u64 u1, .int .u64 u2, .int .u64 u3, .int .u64 u4, .int .u64 u5] 34 (0, 0)) := blk_call huA (by first | (with_reducible exact Hk13.out) | (with_reducible exact blk_drew Hk13.out)); have Ye : uA.heap[Be]? = some (.cells #[.int .u64 ad, .int .u64 an, .int .i64 ak] 39 (0, 0)) := blk_call huA (by first | (with_reducible exact He13.out) | (with_reducible exact blk_drew He13.out)); have YB := bel_call huA (show Below w.heap.size w _ by first | (with_reducible exact HB13.out) | (with_reducible exact HB13.out.drew)) (by have := HB13.out.size; first | omega | (simp; omega)); obtain ⟨c0q, c1q, c2q, c3q, c4q, cf0q, cf1q, cf2q, cf3q, cf4q⟩ := at5 Yc; have clq := lt_blk Yc; obtain ⟨d0q, d1q, d2q, d3q, d4q, d5q, df0q, df1q, df2q, df3q, df4q, df5q⟩ := at6 Yd; have dlq := lt_blk Yd; have HS141 := Lib.hid (show uA.cell? ⟨Be, 0, none⟩ = some (.int .u64 ad) from cell_blk Ye 0 rfl); have Hc141 := Lib.hid Yc; have Hd141 := Lib.hid Yd; have Ho141 := Lib.hid Yo; have Hk141 := Lib.hid Yk; have He141 := Lib.hid Ye; have HB141 := Lib.hid YB; clear huA YB Yc Yd Yo Yk Ye)
            refine hK.out _ _ (HS141.out) (fun hHeld => ?_)
            clear hK KQ
            try simp only [List.getElem_toArray, List.getElem_cons_succ, List.getElem_cons_zero, Act.put, List.setIfInBounds_toArray, List.set_cons_zero, List.set_cons_succ]
            refine wpAnyH_norm (n := 3) (l := #[true, true, true, true, true, true, true, false, false, false]) (by kernel_rfl) (by kernel_rfl) ?_
            refine wpAnyH_ready (rs := [7]) (by kernel_rfl) (by simp) ?_
            refine (cons_list (o := _) rfl (fun KQ hK => ?_) AllReadyH.nil)
            rw [if_pos (by rfl)]
            go_wp2_with (go_at_call 19; (with_reducible refine (T4.out _).mono ?_); rintro e uB ⟨rfl, huB⟩; have Yc : uB.heap[Bc]? = some (.cells #[.int .u64 y0, .int .u64 y1, .int .u64 y2, .int .u64 y3, .int .u64 y4] 24 (0, 0)) := blk_call huB (by first | (with_reducible exact Hc141.out) | (with_reducible exact blk_drew Hc141.out)); have Yd : uB.heap[Bd]? = some (.cells #[.int .u64 z0, .int .u64 z1, .int .u64 z2, .int .u64 z3, .int .u64 z4, .int .u64 z5] 26 (0, 0)) := blk_call huB (by first | (with_reducible exact Hd141.out) | (with_reducible exact blk_drew Hd141.out)); have Yo : uB.heap[Bo]? = some (.cells #[.int .u64 p0, .int .u64 p1, .int .u64 p2, .int .u64 p3, .int .u64 p4] 29 (0, 0)) := blk_call huB (by first | (with_reducible exact Ho141.out) | (with_reducible exact blk_drew Ho141.out)); have Yk : uB.heap[Bk]? = some (.cells #[.int .u64 u0, .int .u64 u1, .int .u64 u2, .int .u64 u3, .int .u64 u4, .int .u64 u5] 34 (0, 0)) := blk_call huB (by first | (with_reducible exact Hk141.out) | (with_reducible exact blk_drew Hk141.out)); have Ye : uB.heap[Be]? = some (.cells #[.int .u64 ad, .int .u64 an, .int .i64 ak] 39 (0, 0)) := blk_call huB (by first | (with_reducible exact He141.out) | (with_reducible exact blk_drew He141.out)); have YB := bel_call huB (show Below w.heap.size w _ by first | (with_reducible exact HB141.out) | (with_reducible exact HB141.out.drew)) (by have := HB141.out.size; first | omega | (simp; omega)); clear c0q c1q c2q c3q c4q cf0q cf1q cf2q cf3q cf4q clq d0q d1q d2q d3q d4q d5q df0q df1q df2q df3q df4q df5q dlq; obtain ⟨c0q, c1q, c2q, c3q, c4q, cf0q, cf1q, cf2q, cf3q, cf4q⟩ := at5 Yc; have clq := lt_blk Yc; obtain ⟨d0q, d1q, d2q, d3q, d4q, d5q, df0q, df1q, df2q, df3q, df4q, df5q⟩ := at6 Yd; have dlq := lt_blk Yd; have HS142 := Lib.hid (show uB.cell? ⟨Be, 0, none⟩ = some (.int .u64 ad) from cell_blk Ye 0 rfl); have Hc142 := Lib.hid Yc; have Hd142 := Lib.hid Yd; have Ho142 := Lib.hid Yo; have Hk142 := Lib.hid Yk; have He142 := Lib.hid Ye; have HB142 := Lib.hid YB; clear huB YB Yc Yd Yo Yk Ye)
            refine hK.out _ _ (HS142.out) (fun hHeld => ?_)
            clear hK KQ
            try simp only [List.getElem_toArray, List.getElem_cons_succ, List.getElem_cons_zero, Act.put, List.setIfInBounds_toArray, List.set_cons_zero, List.set_cons_succ]
            refine wpAnyH_norm (n := 2) (l := #[true, true, true, true, true, true, true, true, false, false]) (by kernel_rfl) (by kernel_rfl) ?_
            refine wpAnyH_ready (rs := [8]) (by kernel_rfl) (by simp) ?_
            refine (cons_list (o := _) rfl (fun KQ hK => ?_) AllReadyH.nil)
            rw [if_pos (by rfl)]
            go_simp
            refine hK.out _ _ (KTA.out _ _ _ _ _ _ HS142.out) (fun hHeld => ?_)
            clear hK KQ
            try simp only [List.getElem_toArray, List.getElem_cons_succ, List.getElem_cons_zero, Act.put, List.setIfInBounds_toArray, List.set_cons_zero, List.set_cons_succ]
            refine wpAnyH_norm (n := 1) (l := #[true, true, true, true, true, true, true, true, true, false]) (by kernel_rfl) (by kernel_rfl) ?_
            refine wpAnyH_ready (rs := [9]) (by kernel_rfl) (by simp) ?_
            refine (cons_list (o := _) rfl (fun KQ hK => ?_) AllReadyH.nil)
            rw [if_pos (by rfl)]
            go_simp
            refine hK.out _ _ (KTB.out _ _ _ _ _ _ _ (KTA.out _ _ _ _ _ _ HS142.out)) (fun hHeld => ?_)
            clear hK KQ
            try simp only [List.getElem_toArray, List.getElem_cons_succ, List.getElem_cons_zero, Act.put, List.setIfInBounds_toArray, List.set_cons_zero, List.set_cons_succ]
            refine wpAnyH_norm (n := 0) (l := #[true, true, true, true, true, true, true, true, true, true]) (by kernel_rfl) (by kernel_rfl) ?_
            refine wpAnyH_done (by kernel_rfl) ?_ _
            refine NoPanic.normal ?_
            go_wp2
            go_meet
            refine ⟨?_, ?_, ?_, ?_, ?_, ?_⟩
            · (repeat' (first | (with_reducible exact Hc142.out) | (with_reducible exact heap_alloc_new _ _) | (with_reducible exact blk_new (by first | (simp; done) | omega)) | (with_reducible refine blk_drew ?_) | (with_reducible apply put1_0) | (with_reducible apply put2_0) | (with_reducible apply put2_1) | (with_reducible apply put3_0) | (with_reducible apply put3_1) | (with_reducible apply put3_2) | (with_reducible apply put4_0) | (with_reducible apply put4_1) | (with_reducible apply put4_2) | (with_reducible apply put4_3) | (with_reducible apply put5_0) | (with_reducible apply put5_1) | (with_reducible apply put5_2) | (with_reducible apply put5_3) | (with_reducible apply put5_4) | (with_reducible apply put6_0) | (with_reducible apply put6_1) | (with_reducible apply put6_2) | (with_reducible apply put6_3) | (with_reducible apply put6_4) | (with_reducible apply put6_5) | (with_reducible refine blk_else (by omega) ?_) | (with_reducible refine blk_old ?_)))
            · (repeat' (first | (with_reducible exact Hd142.out) | (with_reducible exact heap_alloc_new _ _) | (with_reducible exact blk_new (by first | (simp; done) | omega)) | (with_reducible refine blk_drew ?_) | (with_reducible apply put1_0) | (with_reducible apply put2_0) | (with_reducible apply put2_1) | (with_reducible apply put3_0) | (with_reducible apply put3_1) | (with_reducible apply put3_2) | (with_reducible apply put4_0) | (with_reducible apply put4_1) | (with_reducible apply put4_2) | (with_reducible apply put4_3) | (with_reducible apply put5_0) | (with_reducible apply put5_1) | (with_reducible apply put5_2) | (with_reducible apply put5_3) | (with_reducible apply put5_4) | (with_reducible apply put6_0) | (with_reducible apply put6_1) | (with_reducible apply put6_2) | (with_reducible apply put6_3) | (with_reducible apply put6_4) | (with_reducible apply put6_5) | (with_reducible refine blk_else (by omega) ?_) | (with_reducible refine blk_old ?_)))
            · (repeat' (first | (with_reducible exact Ho142.out) | (with_reducible exact heap_alloc_new _ _) | (with_reducible exact blk_new (by first | (simp; done) | omega)) | (with_reducible refine blk_drew ?_) | (with_reducible apply put1_0) | (with_reducible apply put2_0) | (with_reducible apply put2_1) | (with_reducible apply put3_0) | (with_reducible apply put3_1) | (with_reducible apply put3_2) | (with_reducible apply put4_0) | (with_reducible apply put4_1) | (with_reducible apply put4_2) | (with_reducible apply put4_3) | (with_reducible apply put5_0) | (with_reducible apply put5_1) | (with_reducible apply put5_2) | (with_reducible apply put5_3) | (with_reducible apply put5_4) | (with_reducible apply put6_0) | (with_reducible apply put6_1) | (with_reducible apply put6_2) | (with_reducible apply put6_3) | (with_reducible apply put6_4) | (with_reducible apply put6_5) | (with_reducible refine blk_else (by omega) ?_) | (with_reducible refine blk_old ?_)))
            · (repeat' (first | (with_reducible exact Hk142.out) | (with_reducible exact heap_alloc_new _ _) | (with_reducible exact blk_new (by first | (simp; done) | omega)) | (with_reducible refine blk_drew ?_) | (with_reducible apply put1_0) | (with_reducible apply put2_0) | (with_reducible apply put2_1) | (with_reducible apply put3_0) | (with_reducible apply put3_1) | (with_reducible apply put3_2) | (with_reducible apply put4_0) | (with_reducible apply put4_1) | (with_reducible apply put4_2) | (with_reducible apply put4_3) | (with_reducible apply put5_0) | (with_reducible apply put5_1) | (with_reducible apply put5_2) | (with_reducible apply put5_3) | (with_reducible apply put5_4) | (with_reducible apply put6_0) | (with_reducible apply put6_1) | (with_reducible apply put6_2) | (with_reducible apply put6_3) | (with_reducible apply put6_4) | (with_reducible apply put6_5) | (with_reducible refine blk_else (by omega) ?_) | (with_reducible refine blk_old ?_)))
            · (repeat' (first | (with_reducible exact He142.out) | (with_reducible exact heap_alloc_new _ _) | (with_reducible exact blk_new (by first | (simp; done) | omega)) | (with_reducible refine blk_drew ?_) | (with_reducible apply put1_0) | (with_reducible apply put2_0) | (with_reducible apply put2_1) | (with_reducible apply put3_0) | (with_reducible apply put3_1) | (with_reducible apply put3_2) | (with_reducible apply put4_0) | (with_reducible apply put4_1) | (with_reducible apply put4_2) | (with_reducible apply put4_3) | (with_reducible apply put5_0) | (with_reducible apply put5_1) | (with_reducible apply put5_2) | (with_reducible apply put5_3) | (with_reducible apply put5_4) | (with_reducible apply put6_0) | (with_reducible apply put6_1) | (with_reducible apply put6_2) | (with_reducible apply put6_3) | (with_reducible apply put6_4) | (with_reducible apply put6_5) | (with_reducible refine blk_else (by omega) ?_) | (with_reducible refine blk_old ?_)))
            · (repeat' (first | (with_reducible exact HB142.out) | (with_reducible exact Below.refl _ _) | (with_reducible refine below_drewN _ ?_) | (with_reducible refine Below.drew ?_) | (with_reducible refine Below.setCell ?_ (by first | (simp; done) | omega) _) | (with_reducible refine Below.alloc ?_ (by have := HB142.out.size; simp; omega) _)))
        obtain ⟨xc_, xd_, xo_, xk_, xe_, xb_⟩ := hcut
        generalize wc = W4 at *
        clear c0_ c1_ c2_ c3_ c4_ cf0_ cf1_ cf2_ cf3_ cf4_ cn_ cm_ cl_ d0_ d1_ d2_ d3_ d4_ d5_ df0_ df1_ df2_ df3_ df4_ df5_ dn_ dm_ dl_ o0_ o1_ o2_ o3_ o4_ of0_ of1_ of2_ of3_ of4_ on_ om_ ol_ k0_ k1_ k2_ k3_ k4_ k5_ kf0_ kf1_ kf2_ kf3_ kf4_ kf5_ kn_ km_ kl_ e0_ e1_ e2_ ef0_ ef1_ ef2_ en_ em_ el_ Hc13 Hd13 Ho13 Hk13 He13 HB13
        have Hc14 := Lib.hid xc_; have Hd14 := Lib.hid xd_; have Ho14 := Lib.hid xo_; have Hk14 := Lib.hid xk_; have He14 := Lib.hid xe_; have HB14 := Lib.hid xb_
        clear xc_ xd_ xo_ xk_ xe_ xb_
        obtain ⟨c0_, c1_, c2_, c3_, c4_, cf0_, cf1_, cf2_, cf3_, cf4_⟩ := at5 Hc14.out
        have cn_ := ne_blk Hc14.out
        have cm_ := Ne.symm (a := Bc) cn_
        have cl_ := lt_blk Hc14.out
        obtain ⟨d0_, d1_, d2_, d3_, d4_, d5_, df0_, df1_, df2_, df3_, df4_, df5_⟩ := at6 Hd14.out
        have dn_ := ne_blk Hd14.out
        have dm_ := Ne.symm (a := Bd) dn_
        have dl_ := lt_blk Hd14.out
        obtain ⟨o0_, o1_, o2_, o3_, o4_, of0_, of1_, of2_, of3_, of4_⟩ := at5 Ho14.out
        have on_ := ne_blk Ho14.out
        have om_ := Ne.symm (a := Bo) on_
        have ol_ := lt_blk Ho14.out
        obtain ⟨k0_, k1_, k2_, k3_, k4_, k5_, kf0_, kf1_, kf2_, kf3_, kf4_, kf5_⟩ := at6 Hk14.out
        have kn_ := ne_blk Hk14.out
        have km_ := Ne.symm (a := Bk) kn_
        have kl_ := lt_blk Hk14.out
        obtain ⟨e0_, e1_, e2_, ef0_, ef1_, ef2_⟩ := at3 He14.out
        have en_ := ne_blk He14.out
        have em_ := Ne.symm (a := Be) en_
        have el_ := lt_blk He14.out
        clear T1 T2 T3 T4
        go_wp2_with fail
        refine cl_gen ?_
        intro v14 hv14
        have Xc : v14.heap[Bc]? = some (.cells #[.int .u64 p0, .int .u64 p1, .int .u64 p2, .int .u64 p3, .int .u64 p4] 24 (0, 0)) := by
          rw [hv14]
          (repeat' (first | (with_reducible exact Hc14.out) | (with_reducible exact heap_alloc_new _ _) | (with_reducible exact blk_new (by first | (simp; done) | omega)) | (with_reducible refine blk_drew ?_) | (with_reducible apply put5_0) | (with_reducible apply put5_1) | (with_reducible apply put5_2) | (with_reducible apply put5_3) | (with_reducible apply put5_4) | (with_reducible refine blk_else (by omega) ?_) | (with_reducible refine blk_old ?_)))
        have Xd : v14.heap[Bd]? = some (.cells #[.int .u64 u0, .int .u64 u1, .int .u64 u2, .int .u64 u3, .int .u64 u4, .int .u64 u5] 26 (0, 0)) := by
          rw [hv14]
          (repeat' (first | (with_reducible exact Hd14.out) | (with_reducible exact heap_alloc_new _ _) | (with_reducible exact blk_new (by first | (simp; done) | omega)) | (with_reducible refine blk_drew ?_) | (with_reducible apply put6_0) | (with_reducible apply put6_1) | (with_reducible apply put6_2) | (with_reducible apply put6_3) | (with_reducible apply put6_4) | (with_reducible apply put6_5) | (with_reducible refine blk_else (by omega) ?_) | (with_reducible refine blk_old ?_)))
        have Xo : v14.heap[Bo]? = some (.cells #[.int .u64 p0, .int .u64 p1, .int .u64 p2, .int .u64 p3, .int .u64 p4] 29 (0, 0)) := by
          rw [hv14]
          (repeat' (first | (with_reducible exact Ho14.out) | (with_reducible exact heap_alloc_new _ _) | (with_reducible exact blk_new (by first | (simp; done) | omega)) | (with_reducible refine blk_drew ?_) | (with_reducible apply put5_0) | (with_reducible apply put5_1) | (with_reducible apply put5_2) | (with_reducible apply put5_3) | (with_reducible apply put5_4) | (with_reducible refine blk_else (by omega) ?_) | (with_reducible refine blk_old ?_)))
        have Xk : v14.heap[Bk]? = some (.cells #[.int .u64 u0, .int .u64 u1, .int .u64 u2, .int .u64 u3, .int .u64 u4, .int .u64 u5] 34 (0, 0)) := by
          rw [hv14]
          (repeat' (first | (with_reducible exact Hk14.out) | (with_reducible exact heap_alloc_new _ _) | (with_reducible exact blk_new (by first | (simp; done) | omega)) | (with_reducible refine blk_drew ?_) | (with_reducible apply put6_0) | (with_reducible apply put6_1) | (with_reducible apply put6_2) | (with_reducible apply put6_3) | (with_reducible apply put6_4) | (with_reducible apply put6_5) | (with_reducible refine blk_else (by omega) ?_) | (with_reducible refine blk_old ?_)))
        have Xe : v14.heap[Be]? = some (.cells #[.int .u64 ad, .int .u64 an, .int .i64 ak] 39 (0, 0)) := by
          rw [hv14]
          (repeat' (first | (with_reducible exact He14.out) | (with_reducible exact heap_alloc_new _ _) | (with_reducible exact blk_new (by first | (simp; done) | omega)) | (with_reducible refine blk_drew ?_) | (with_reducible apply put3_0) | (with_reducible apply put3_1) | (with_reducible apply put3_2) | (with_reducible refine blk_else (by omega) ?_) | (with_reducible refine blk_old ?_)))
        have XB : Below w.heap.size w v14 := by
          rw [hv14]
          (repeat' (first | (with_reducible exact HB14.out) | (with_reducible exact Below.refl _ _) | (with_reducible refine below_drewN _ ?_) | (with_reducible refine Below.drew ?_) | (with_reducible refine Below.setCell ?_ (by first | (simp; done) | omega) _) | (with_reducible refine Below.alloc ?_ (by have := HB14.out.size; simp; omega) _)))
        clear c0_ c1_ c2_ c3_ c4_ cf0_ cf1_ cf2_ cf3_ cf4_ cn_ cm_ cl_ d0_ d1_ d2_ d3_ d4_ d5_ df0_ df1_ df2_ df3_ df4_ df5_ dn_ dm_ dl_ o0_ o1_ o2_ o3_ o4_ of0_ of1_ of2_ of3_ of4_ on_ om_ ol_ k0_ k1_ k2_ k3_ k4_ k5_ kf0_ kf1_ kf2_ kf3_ kf4_ kf5_ kn_ km_ kl_ e0_ e1_ e2_ ef0_ ef1_ ef2_ en_ em_ el_
        clear hv14 Hc14 Hd14 Ho14 Hk14 He14 HB14
        refine (C1.out _).mono ?_
        rintro e w15 ⟨rfl, bb⟩
        have Hc15 := Lib.hid (blk_call bb Xc)
        have Hd15 := Lib.hid (blk_call bb Xd)
        have Ho15 := Lib.hid (blk_call bb Xo)
        have Hk15 := Lib.hid (blk_call bb Xk)
        have He15 := Lib.hid (blk_call bb Xe)
        have HB15 := Lib.hid (bel_onto XB bb XB.size)
        clear Xc Xd Xo Xk Xe XB bb
        obtain ⟨c0_, c1_, c2_, c3_, c4_, cf0_, cf1_, cf2_, cf3_, cf4_⟩ := at5 Hc15.out
        have cn_ := ne_blk Hc15.out
        have cm_ := Ne.symm (a := Bc) cn_
        have cl_ := lt_blk Hc15.out
        obtain ⟨d0_, d1_, d2_, d3_, d4_, d5_, df0_, df1_, df2_, df3_, df4_, df5_⟩ := at6 Hd15.out
        have dn_ := ne_blk Hd15.out
        have dm_ := Ne.symm (a := Bd) dn_
        have dl_ := lt_blk Hd15.out
        obtain ⟨o0_, o1_, o2_, o3_, o4_, of0_, of1_, of2_, of3_, of4_⟩ := at5 Ho15.out
        have on_ := ne_blk Ho15.out
        have om_ := Ne.symm (a := Bo) on_
        have ol_ := lt_blk Ho15.out
        obtain ⟨k0_, k1_, k2_, k3_, k4_, k5_, kf0_, kf1_, kf2_, kf3_, kf4_, kf5_⟩ := at6 Hk15.out
        have kn_ := ne_blk Hk15.out
        have km_ := Ne.symm (a := Bk) kn_
        have kl_ := lt_blk Hk15.out
        obtain ⟨e0_, e1_, e2_, ef0_, ef1_, ef2_⟩ := at3 He15.out
        have en_ := ne_blk He15.out
        have em_ := Ne.symm (a := Be) en_
        have el_ := lt_blk He15.out
        go_wp2_with fail
        refine cl_gen ?_
        intro v15 hv15
        have Xc : v15.heap[Bc]? = some (.cells #[.int .u64 p0, .int .u64 p1, .int .u64 p2, .int .u64 p3, .int .u64 p4] 24 (0, 0)) := by
          rw [hv15]
          (repeat' (first | (with_reducible exact Hc15.out) | (with_reducible exact heap_alloc_new _ _) | (with_reducible exact blk_new (by first | (simp; done) | omega)) | (with_reducible refine blk_drew ?_) | (with_reducible apply put5_0) | (with_reducible apply put5_1) | (with_reducible apply put5_2) | (with_reducible apply put5_3) | (with_reducible apply put5_4) | (with_reducible refine blk_else (by omega) ?_) | (with_reducible refine blk_old ?_)))
        have Xd : v15.heap[Bd]? = some (.cells #[.int .u64 u0, .int .u64 u1, .int .u64 u2, .int .u64 u3, .int .u64 u4, .int .u64 u5] 26 (0, 0)) := by
          rw [hv15]
          (repeat' (first | (with_reducible exact Hd15.out) | (with_reducible exact heap_alloc_new _ _) | (with_reducible exact blk_new (by first | (simp; done) | omega)) | (with_reducible refine blk_drew ?_) | (with_reducible apply put6_0) | (with_reducible apply put6_1) | (with_reducible apply put6_2) | (with_reducible apply put6_3) | (with_reducible apply put6_4) | (with_reducible apply put6_5) | (with_reducible refine blk_else (by omega) ?_) | (with_reducible refine blk_old ?_)))
        have Xo : v15.heap[Bo]? = some (.cells #[.int .u64 k0, .int .u64 k1, .int .u64 k2, .int .u64 k3, .int .u64 k4] 29 (0, 0)) := by
          rw [hv15]
          (repeat' (first | (with_reducible exact Ho15.out) | (with_reducible exact heap_alloc_new _ _) | (with_reducible exact blk_new (by first | (simp; done) | omega)) | (with_reducible refine blk_drew ?_) | (with_reducible apply put5_0) | (with_reducible apply put5_1) | (with_reducible apply put5_2) | (with_reducible apply put5_3) | (with_reducible apply put5_4) | (with_reducible refine blk_else (by omega) ?_) | (with_reducible refine blk_old ?_)))
        have Xk : v15.heap[Bk]? = some (.cells #[.int .u64 u0, .int .u64 u1, .int .u64 u2, .int .u64 u3, .int .u64 u4, .int .u64 u5] 34 (0, 0)) := by
          rw [hv15]
          (repeat' (first | (with_reducible exact Hk15.out) | (with_reducible exact heap_alloc_new _ _) | (with_reducible exact blk_new (by first | (simp; done) | omega)) | (with_reducible refine blk_drew ?_) | (with_reducible apply put6_0) | (with_reducible apply put6_1) | (with_reducible apply put6_2) | (with_reducible apply put6_3) | (with_reducible apply put6_4) | (with_reducible apply put6_5) | (with_reducible refine blk_else (by omega) ?_) | (with_reducible refine blk_old ?_)))
        have Xe : v15.heap[Be]? = some (.cells #[.int .u64 ad, .int .u64 an, .int .i64 ak] 39 (0, 0)) := by
          rw [hv15]
          (repeat' (first | (with_reducible exact He15.out) | (with_reducible exact heap_alloc_new _ _) | (with_reducible exact blk_new (by first | (simp; done) | omega)) | (with_reducible refine blk_drew ?_) | (with_reducible apply put3_0) | (with_reducible apply put3_1) | (with_reducible apply put3_2) | (with_reducible refine blk_else (by omega) ?_) | (with_reducible refine blk_old ?_)))
        have XB : Below w.heap.size w v15 := by
          rw [hv15]
          (repeat' (first | (with_reducible exact HB15.out) | (with_reducible exact Below.refl _ _) | (with_reducible refine below_drewN _ ?_) | (with_reducible refine Below.drew ?_) | (with_reducible refine Below.setCell ?_ (by first | (simp; done) | omega) _) | (with_reducible refine Below.alloc ?_ (by have := HB15.out.size; simp; omega) _)))
        clear c0_ c1_ c2_ c3_ c4_ cf0_ cf1_ cf2_ cf3_ cf4_ cn_ cm_ cl_ d0_ d1_ d2_ d3_ d4_ d5_ df0_ df1_ df2_ df3_ df4_ df5_ dn_ dm_ dl_ o0_ o1_ o2_ o3_ o4_ of0_ of1_ of2_ of3_ of4_ on_ om_ ol_ k0_ k1_ k2_ k3_ k4_ k5_ kf0_ kf1_ kf2_ kf3_ kf4_ kf5_ kn_ km_ kl_ e0_ e1_ e2_ ef0_ ef1_ ef2_ en_ em_ el_
        clear hv15 Hc15 Hd15 Ho15 Hk15 He15 HB15
        refine (C2.out _).mono ?_
        rintro e w16 ⟨rfl, bb⟩
        have Hc16 := Lib.hid (blk_call bb Xc)
        have Hd16 := Lib.hid (blk_call bb Xd)
        have Ho16 := Lib.hid (blk_call bb Xo)
        have Hk16 := Lib.hid (blk_call bb Xk)
        have He16 := Lib.hid (blk_call bb Xe)
        have HB16 := Lib.hid (bel_onto XB bb XB.size)
        clear Xc Xd Xo Xk Xe XB bb
        obtain ⟨c0_, c1_, c2_, c3_, c4_, cf0_, cf1_, cf2_, cf3_, cf4_⟩ := at5 Hc16.out
        have cn_ := ne_blk Hc16.out
        have cm_ := Ne.symm (a := Bc) cn_
        have cl_ := lt_blk Hc16.out
        obtain ⟨d0_, d1_, d2_, d3_, d4_, d5_, df0_, df1_, df2_, df3_, df4_, df5_⟩ := at6 Hd16.out
        have dn_ := ne_blk Hd16.out
        have dm_ := Ne.symm (a := Bd) dn_
        have dl_ := lt_blk Hd16.out
        obtain ⟨o0_, o1_, o2_, o3_, o4_, of0_, of1_, of2_, of3_, of4_⟩ := at5 Ho16.out
        have on_ := ne_blk Ho16.out
        have om_ := Ne.symm (a := Bo) on_
        have ol_ := lt_blk Ho16.out
        obtain ⟨k0_, k1_, k2_, k3_, k4_, k5_, kf0_, kf1_, kf2_, kf3_, kf4_, kf5_⟩ := at6 Hk16.out
        have kn_ := ne_blk Hk16.out
        have km_ := Ne.symm (a := Bk) kn_
        have kl_ := lt_blk Hk16.out
        obtain ⟨e0_, e1_, e2_, ef0_, ef1_, ef2_⟩ := at3 He16.out
        have en_ := ne_blk He16.out
        have em_ := Ne.symm (a := Be) en_
        have el_ := lt_blk He16.out
        go_wp2_with fail
        refine cl_gen ?_
        intro v16 hv16
        have Xc : v16.heap[Bc]? = some (.cells #[.int .u64 p0, .int .u64 p1, .int .u64 p2, .int .u64 p3, .int .u64 p4] 24 (0, 0)) := by
          rw [hv16]
          (repeat' (first | (with_reducible exact Hc16.out) | (with_reducible exact heap_alloc_new _ _) | (with_reducible exact blk_new (by first | (simp; done) | omega)) | (with_reducible refine blk_drew ?_) | (with_reducible apply put5_0) | (with_reducible apply put5_1) | (with_reducible apply put5_2) | (with_reducible apply put5_3) | (with_reducible apply put5_4) | (with_reducible refine blk_else (by omega) ?_) | (with_reducible refine blk_old ?_)))
        have Xd : v16.heap[Bd]? = some (.cells #[.int .u64 u0, .int .u64 u1, .int .u64 u2, .int .u64 u3, .int .u64 u4, .int .u64 u5] 26 (0, 0)) := by
          rw [hv16]
          (repeat' (first | (with_reducible exact Hd16.out) | (with_reducible exact heap_alloc_new _ _) | (with_reducible exact blk_new (by first | (simp; done) | omega)) | (with_reducible refine blk_drew ?_) | (with_reducible apply put6_0) | (with_reducible apply put6_1) | (with_reducible apply put6_2) | (with_reducible apply put6_3) | (with_reducible apply put6_4) | (with_reducible apply put6_5) | (with_reducible refine blk_else (by omega) ?_) | (with_reducible refine blk_old ?_)))
        have Xo : v16.heap[Bo]? = some (.cells #[.int .u64 k0, .int .u64 k1, .int .u64 k2, .int .u64 k3, .int .u64 k4] 29 (0, 0)) := by
          rw [hv16]
          (repeat' (first | (with_reducible exact Ho16.out) | (with_reducible exact heap_alloc_new _ _) | (with_reducible exact blk_new (by first | (simp; done) | omega)) | (with_reducible refine blk_drew ?_) | (with_reducible apply put5_0) | (with_reducible apply put5_1) | (with_reducible apply put5_2) | (with_reducible apply put5_3) | (with_reducible apply put5_4) | (with_reducible refine blk_else (by omega) ?_) | (with_reducible refine blk_old ?_)))
        have Xk : v16.heap[Bk]? = some (.cells #[.int .u64 v0, .int .u64 v1, .int .u64 v2, .int .u64 v3, .int .u64 v4, .int .u64 v5] 34 (0, 0)) := by
          rw [hv16]
          (repeat' (first | (with_reducible exact Hk16.out) | (with_reducible exact heap_alloc_new _ _) | (with_reducible exact blk_new (by first | (simp; done) | omega)) | (with_reducible refine blk_drew ?_) | (with_reducible apply put6_0) | (with_reducible apply put6_1) | (with_reducible apply put6_2) | (with_reducible apply put6_3) | (with_reducible apply put6_4) | (with_reducible apply put6_5) | (with_reducible refine blk_else (by omega) ?_) | (with_reducible refine blk_old ?_)))
        have Xe : v16.heap[Be]? = some (.cells #[.int .u64 ad, .int .u64 an, .int .i64 ak] 39 (0, 0)) := by
          rw [hv16]
          (repeat' (first | (with_reducible exact He16.out) | (with_reducible exact heap_alloc_new _ _) | (with_reducible exact blk_new (by first | (simp; done) | omega)) | (with_reducible refine blk_drew ?_) | (with_reducible apply put3_0) | (with_reducible apply put3_1) | (with_reducible apply put3_2) | (with_reducible refine blk_else (by omega) ?_) | (with_reducible refine blk_old ?_)))
        have XB : Below w.heap.size w v16 := by
          rw [hv16]
          (repeat' (first | (with_reducible exact HB16.out) | (with_reducible exact Below.refl _ _) | (with_reducible refine below_drewN _ ?_) | (with_reducible refine Below.drew ?_) | (with_reducible refine Below.setCell ?_ (by first | (simp; done) | omega) _) | (with_reducible refine Below.alloc ?_ (by have := HB16.out.size; simp; omega) _)))
        clear c0_ c1_ c2_ c3_ c4_ cf0_ cf1_ cf2_ cf3_ cf4_ cn_ cm_ cl_ d0_ d1_ d2_ d3_ d4_ d5_ df0_ df1_ df2_ df3_ df4_ df5_ dn_ dm_ dl_ o0_ o1_ o2_ o3_ o4_ of0_ of1_ of2_ of3_ of4_ on_ om_ ol_ k0_ k1_ k2_ k3_ k4_ k5_ kf0_ kf1_ kf2_ kf3_ kf4_ kf5_ kn_ km_ kl_ e0_ e1_ e2_ ef0_ ef1_ ef2_ en_ em_ el_
        clear hv16 Hc16 Hd16 Ho16 Hk16 He16 HB16
        refine (C3.out _).mono ?_
        rintro e w17 ⟨rfl, bb⟩
        have Hc17 := Lib.hid (blk_call bb Xc)
        have Hd17 := Lib.hid (blk_call bb Xd)
        have Ho17 := Lib.hid (blk_call bb Xo)
        have Hk17 := Lib.hid (blk_call bb Xk)
        have He17 := Lib.hid (blk_call bb Xe)
        have HB17 := Lib.hid (bel_onto XB bb XB.size)
        clear Xc Xd Xo Xk Xe XB bb
        obtain ⟨c0_, c1_, c2_, c3_, c4_, cf0_, cf1_, cf2_, cf3_, cf4_⟩ := at5 Hc17.out
        have cn_ := ne_blk Hc17.out
        have cm_ := Ne.symm (a := Bc) cn_
        have cl_ := lt_blk Hc17.out
        obtain ⟨d0_, d1_, d2_, d3_, d4_, d5_, df0_, df1_, df2_, df3_, df4_, df5_⟩ := at6 Hd17.out
        have dn_ := ne_blk Hd17.out
        have dm_ := Ne.symm (a := Bd) dn_
        have dl_ := lt_blk Hd17.out
        obtain ⟨o0_, o1_, o2_, o3_, o4_, of0_, of1_, of2_, of3_, of4_⟩ := at5 Ho17.out
        have on_ := ne_blk Ho17.out
        have om_ := Ne.symm (a := Bo) on_
        have ol_ := lt_blk Ho17.out
        obtain ⟨k0_, k1_, k2_, k3_, k4_, k5_, kf0_, kf1_, kf2_, kf3_, kf4_, kf5_⟩ := at6 Hk17.out
        have kn_ := ne_blk Hk17.out
        have km_ := Ne.symm (a := Bk) kn_
        have kl_ := lt_blk Hk17.out
        obtain ⟨e0_, e1_, e2_, ef0_, ef1_, ef2_⟩ := at3 He17.out
        have en_ := ne_blk He17.out
        have em_ := Ne.symm (a := Be) en_
        have el_ := lt_blk He17.out
        go_wp2_with fail
        refine cl_gen ?_
        intro v17 hv17
        have Xc : v17.heap[Bc]? = some (.cells #[.int .u64 k0, .int .u64 k1, .int .u64 k2, .int .u64 k3, .int .u64 k4] 24 (0, 0)) := by
          rw [hv17]
          (repeat' (first | (with_reducible exact Hc17.out) | (with_reducible exact heap_alloc_new _ _) | (with_reducible exact blk_new (by first | (simp; done) | omega)) | (with_reducible refine blk_drew ?_) | (with_reducible apply put5_0) | (with_reducible apply put5_1) | (with_reducible apply put5_2) | (with_reducible apply put5_3) | (with_reducible apply put5_4) | (with_reducible refine blk_else (by omega) ?_) | (with_reducible refine blk_old ?_)))
        have Xd : v17.heap[Bd]? = some (.cells #[.int .u64 u0, .int .u64 u1, .int .u64 u2, .int .u64 u3, .int .u64 u4, .int .u64 u5] 26 (0, 0)) := by
          rw [hv17]
          (repeat' (first | (with_reducible exact Hd17.out) | (with_reducible exact heap_alloc_new _ _) | (with_reducible exact blk_new (by first | (simp; done) | omega)) | (with_reducible refine blk_drew ?_) | (with_reducible apply put6_0) | (with_reducible apply put6_1) | (with_reducible apply put6_2) | (with_reducible apply put6_3) | (with_reducible apply put6_4) | (with_reducible apply put6_5) | (with_reducible refine blk_else (by omega) ?_) | (with_reducible refine blk_old ?_)))
        have Xo : v17.heap[Bo]? = some (.cells #[.int .u64 k0, .int .u64 k1, .int .u64 k2, .int .u64 k3, .int .u64 k4] 29 (0, 0)) := by
          rw [hv17]
          (repeat' (first | (with_reducible exact Ho17.out) | (with_reducible exact heap_alloc_new _ _) | (with_reducible exact blk_new (by first | (simp; done) | omega)) | (with_reducible refine blk_drew ?_) | (with_reducible apply put5_0) | (with_reducible apply put5_1) | (with_reducible apply put5_2) | (with_reducible apply put5_3) | (with_reducible apply put5_4) | (with_reducible refine blk_else (by omega) ?_) | (with_reducible refine blk_old ?_)))
        have Xk : v17.heap[Bk]? = some (.cells #[.int .u64 v0, .int .u64 v1, .int .u64 v2, .int .u64 v3, .int .u64 v4, .int .u64 v5] 34 (0, 0)) := by
          rw [hv17]
          (repeat' (first | (with_reducible exact Hk17.out) | (with_reducible exact heap_alloc_new _ _) | (with_reducible exact blk_new (by first | (simp; done) | omega)) | (with_reducible refine blk_drew ?_) | (with_reducible apply put6_0) | (with_reducible apply put6_1) | (with_reducible apply put6_2) | (with_reducible apply put6_3) | (with_reducible apply put6_4) | (with_reducible apply put6_5) | (with_reducible refine blk_else (by omega) ?_) | (with_reducible refine blk_old ?_)))
        have Xe : v17.heap[Be]? = some (.cells #[.int .u64 ad, .int .u64 an, .int .i64 ak] 39 (0, 0)) := by
          rw [hv17]
          (repeat' (first | (with_reducible exact He17.out) | (with_reducible exact heap_alloc_new _ _) | (with_reducible exact blk_new (by first | (simp; done) | omega)) | (with_reducible refine blk_drew ?_) | (with_reducible apply put3_0) | (with_reducible apply put3_1) | (with_reducible apply put3_2) | (with_reducible refine blk_else (by omega) ?_) | (with_reducible refine blk_old ?_)))
        have XB : Below w.heap.size w v17 := by
          rw [hv17]
          (repeat' (first | (with_reducible exact HB17.out) | (with_reducible exact Below.refl _ _) | (with_reducible refine below_drewN _ ?_) | (with_reducible refine Below.drew ?_) | (with_reducible refine Below.setCell ?_ (by first | (simp; done) | omega) _) | (with_reducible refine Below.alloc ?_ (by have := HB17.out.size; simp; omega) _)))
        clear c0_ c1_ c2_ c3_ c4_ cf0_ cf1_ cf2_ cf3_ cf4_ cn_ cm_ cl_ d0_ d1_ d2_ d3_ d4_ d5_ df0_ df1_ df2_ df3_ df4_ df5_ dn_ dm_ dl_ o0_ o1_ o2_ o3_ o4_ of0_ of1_ of2_ of3_ of4_ on_ om_ ol_ k0_ k1_ k2_ k3_ k4_ k5_ kf0_ kf1_ kf2_ kf3_ kf4_ kf5_ kn_ km_ kl_ e0_ e1_ e2_ ef0_ ef1_ ef2_ en_ em_ el_
        clear hv17 Hc17 Hd17 Ho17 Hk17 He17 HB17
        refine (C4.out _).mono ?_
        rintro e w18 ⟨rfl, bb⟩
        have Hc18 := Lib.hid (blk_call bb Xc)
        have Hd18 := Lib.hid (blk_call bb Xd)
        have Ho18 := Lib.hid (blk_call bb Xo)
        have Hk18 := Lib.hid (blk_call bb Xk)
        have He18 := Lib.hid (blk_call bb Xe)
        have HB18 := Lib.hid (bel_onto XB bb XB.size)
        clear Xc Xd Xo Xk Xe XB bb
        obtain ⟨c0_, c1_, c2_, c3_, c4_, cf0_, cf1_, cf2_, cf3_, cf4_⟩ := at5 Hc18.out
        have cn_ := ne_blk Hc18.out
        have cm_ := Ne.symm (a := Bc) cn_
        have cl_ := lt_blk Hc18.out
        obtain ⟨d0_, d1_, d2_, d3_, d4_, d5_, df0_, df1_, df2_, df3_, df4_, df5_⟩ := at6 Hd18.out
        have dn_ := ne_blk Hd18.out
        have dm_ := Ne.symm (a := Bd) dn_
        have dl_ := lt_blk Hd18.out
        obtain ⟨o0_, o1_, o2_, o3_, o4_, of0_, of1_, of2_, of3_, of4_⟩ := at5 Ho18.out
        have on_ := ne_blk Ho18.out
        have om_ := Ne.symm (a := Bo) on_
        have ol_ := lt_blk Ho18.out
        obtain ⟨k0_, k1_, k2_, k3_, k4_, k5_, kf0_, kf1_, kf2_, kf3_, kf4_, kf5_⟩ := at6 Hk18.out
        have kn_ := ne_blk Hk18.out
        have km_ := Ne.symm (a := Bk) kn_
        have kl_ := lt_blk Hk18.out
        obtain ⟨e0_, e1_, e2_, ef0_, ef1_, ef2_⟩ := at3 He18.out
        have en_ := ne_blk He18.out
        have em_ := Ne.symm (a := Be) en_
        have el_ := lt_blk He18.out
        go_upto_region 23 with (fail)
        refine wp_genc ?_
        intro v18 hv18
        have Xc : v18.heap[Bc]? = some (.cells #[.int .u64 k0, .int .u64 k1, .int .u64 k2, .int .u64 k3, .int .u64 k4] 24 (0, 0)) := by
          rw [hv18]
          (repeat' (first | (with_reducible exact Hc18.out) | (with_reducible exact heap_alloc_new _ _) | (with_reducible exact blk_new (by first | (simp; done) | omega)) | (with_reducible refine blk_drew ?_) | (with_reducible apply put5_0) | (with_reducible apply put5_1) | (with_reducible apply put5_2) | (with_reducible apply put5_3) | (with_reducible apply put5_4) | (with_reducible refine blk_else (by omega) ?_) | (with_reducible refine blk_old ?_)))
        have Xd : v18.heap[Bd]? = some (.cells #[.int .u64 v0, .int .u64 v1, .int .u64 v2, .int .u64 v3, .int .u64 v4, .int .u64 v5] 26 (0, 0)) := by
          rw [hv18]
          (repeat' (first | (with_reducible exact Hd18.out) | (with_reducible exact heap_alloc_new _ _) | (with_reducible exact blk_new (by first | (simp; done) | omega)) | (with_reducible refine blk_drew ?_) | (with_reducible apply put6_0) | (with_reducible apply put6_1) | (with_reducible apply put6_2) | (with_reducible apply put6_3) | (with_reducible apply put6_4) | (with_reducible apply put6_5) | (with_reducible refine blk_else (by omega) ?_) | (with_reducible refine blk_old ?_)))
        have Xo : v18.heap[Bo]? = some (.cells #[.int .u64 k0, .int .u64 k1, .int .u64 k2, .int .u64 k3, .int .u64 k4] 29 (0, 0)) := by
          rw [hv18]
          (repeat' (first | (with_reducible exact Ho18.out) | (with_reducible exact heap_alloc_new _ _) | (with_reducible exact blk_new (by first | (simp; done) | omega)) | (with_reducible refine blk_drew ?_) | (with_reducible apply put5_0) | (with_reducible apply put5_1) | (with_reducible apply put5_2) | (with_reducible apply put5_3) | (with_reducible apply put5_4) | (with_reducible refine blk_else (by omega) ?_) | (with_reducible refine blk_old ?_)))
        have Xk : v18.heap[Bk]? = some (.cells #[.int .u64 v0, .int .u64 v1, .int .u64 v2, .int .u64 v3, .int .u64 v4, .int .u64 v5] 34 (0, 0)) := by
          rw [hv18]
          (repeat' (first | (with_reducible exact Hk18.out) | (with_reducible exact heap_alloc_new _ _) | (with_reducible exact blk_new (by first | (simp; done) | omega)) | (with_reducible refine blk_drew ?_) | (with_reducible apply put6_0) | (with_reducible apply put6_1) | (with_reducible apply put6_2) | (with_reducible apply put6_3) | (with_reducible apply put6_4) | (with_reducible apply put6_5) | (with_reducible refine blk_else (by omega) ?_) | (with_reducible refine blk_old ?_)))
        have Xe : v18.heap[Be]? = some (.cells #[.int .u64 ad, .int .u64 an, .int .i64 ak] 39 (0, 0)) := by
          rw [hv18]
          (repeat' (first | (with_reducible exact He18.out) | (with_reducible exact heap_alloc_new _ _) | (with_reducible exact blk_new (by first | (simp; done) | omega)) | (with_reducible refine blk_drew ?_) | (with_reducible apply put3_0) | (with_reducible apply put3_1) | (with_reducible apply put3_2) | (with_reducible refine blk_else (by omega) ?_) | (with_reducible refine blk_old ?_)))
        have XB : Below w.heap.size w v18 := by
          rw [hv18]
          (repeat' (first | (with_reducible exact HB18.out) | (with_reducible exact Below.refl _ _) | (with_reducible refine below_drewN _ ?_) | (with_reducible refine Below.drew ?_) | (with_reducible refine Below.setCell ?_ (by first | (simp; done) | omega) _) | (with_reducible refine Below.alloc ?_ (by have := HB18.out.size; simp; omega) _)))
        clear c0_ c1_ c2_ c3_ c4_ cf0_ cf1_ cf2_ cf3_ cf4_ cn_ cm_ cl_ d0_ d1_ d2_ d3_ d4_ d5_ df0_ df1_ df2_ df3_ df4_ df5_ dn_ dm_ dl_ o0_ o1_ o2_ o3_ o4_ of0_ of1_ of2_ of3_ of4_ on_ om_ ol_ k0_ k1_ k2_ k3_ k4_ k5_ kf0_ kf1_ kf2_ kf3_ kf4_ kf5_ kn_ km_ kl_ e0_ e1_ e2_ ef0_ ef1_ ef2_ en_ em_ el_
        clear hv18 Hc18 Hd18 Ho18 Hk18 He18 HB18
        have Hc19 := Lib.hid Xc
        have Hd19 := Lib.hid Xd
        have Ho19 := Lib.hid Xo
        have Hk19 := Lib.hid Xk
        have He19 := Lib.hid Xe
        have HB19 := Lib.hid XB
        clear Xc Xd Xo Xk Xe XB
        obtain ⟨c0_, c1_, c2_, c3_, c4_, cf0_, cf1_, cf2_, cf3_, cf4_⟩ := at5 Hc19.out
        have cn_ := ne_blk Hc19.out
        have cm_ := Ne.symm (a := Bc) cn_
        have cl_ := lt_blk Hc19.out
        obtain ⟨d0_, d1_, d2_, d3_, d4_, d5_, df0_, df1_, df2_, df3_, df4_, df5_⟩ := at6 Hd19.out
        have dn_ := ne_blk Hd19.out
        have dm_ := Ne.symm (a := Bd) dn_
        have dl_ := lt_blk Hd19.out
        obtain ⟨o0_, o1_, o2_, o3_, o4_, of0_, of1_, of2_, of3_, of4_⟩ := at5 Ho19.out
        have on_ := ne_blk Ho19.out
        have om_ := Ne.symm (a := Bo) on_
        have ol_ := lt_blk Ho19.out
        obtain ⟨k0_, k1_, k2_, k3_, k4_, k5_, kf0_, kf1_, kf2_, kf3_, kf4_, kf5_⟩ := at6 Hk19.out
        have kn_ := ne_blk Hk19.out
        have km_ := Ne.symm (a := Bk) kn_
        have kl_ := lt_blk Hk19.out
        obtain ⟨e0_, e1_, e2_, ef0_, ef1_, ef2_⟩ := at3 He19.out
        have en_ := ne_blk He19.out
        have em_ := Ne.symm (a := Be) en_
        have el_ := lt_blk He19.out
        go_wp2
        go_roundw
        case rel => exact ⟨j + 1, k0, k1, k2, k3, k4, v0, v1, v2, v3, v4, v5, by go_num, by omega, wo3_, wt3_, (by repeat' (first | (with_reducible exact Hc19.out) | (with_reducible exact heap_alloc_new _ _) | (with_reducible exact blk_new (by first | (simp; done) | omega)) | (with_reducible refine blk_drew ?_) | (with_reducible apply put1_0) | (with_reducible apply put2_0) | (with_reducible apply put2_1) | (with_reducible apply put3_0) | (with_reducible apply put3_1) | (with_reducible apply put3_2) | (with_reducible apply put4_0) | (with_reducible apply put4_1) | (with_reducible apply put4_2) | (with_reducible apply put4_3) | (with_reducible apply put5_0) | (with_reducible apply put5_1) | (with_reducible apply put5_2) | (with_reducible apply put5_3) | (with_reducible apply put5_4) | (with_reducible apply put6_0) | (with_reducible apply put6_1) | (with_reducible apply put6_2) | (with_reducible apply put6_3) | (with_reducible apply put6_4) | (with_reducible apply put6_5) | (with_reducible refine blk_else (by omega) ?_) | (with_reducible refine blk_old ?_))), (by repeat' (first | (with_reducible exact Hd19.out) | (with_reducible exact heap_alloc_new _ _) | (with_reducible exact blk_new (by first | (simp; done) | omega)) | (with_reducible refine blk_drew ?_) | (with_reducible apply put1_0) | (with_reducible apply put2_0) | (with_reducible apply put2_1) | (with_reducible apply put3_0) | (with_reducible apply put3_1) | (with_reducible apply put3_2) | (with_reducible apply put4_0) | (with_reducible apply put4_1) | (with_reducible apply put4_2) | (with_reducible apply put4_3) | (with_reducible apply put5_0) | (with_reducible apply put5_1) | (with_reducible apply put5_2) | (with_reducible apply put5_3) | (with_reducible apply put5_4) | (with_reducible apply put6_0) | (with_reducible apply put6_1) | (with_reducible apply put6_2) | (with_reducible apply put6_3) | (with_reducible apply put6_4) | (with_reducible apply put6_5) | (with_reducible refine blk_else (by omega) ?_) | (with_reducible refine blk_old ?_))), (by repeat' (first | (with_reducible exact Ho19.out) | (with_reducible exact heap_alloc_new _ _) | (with_reducible exact blk_new (by first | (simp; done) | omega)) | (with_reducible refine blk_drew ?_) | (with_reducible apply put1_0) | (with_reducible apply put2_0) | (with_reducible apply put2_1) | (with_reducible apply put3_0) | (with_reducible apply put3_1) | (with_reducible apply put3_2) | (with_reducible apply put4_0) | (with_reducible apply put4_1) | (with_reducible apply put4_2) | (with_reducible apply put4_3) | (with_reducible apply put5_0) | (with_reducible apply put5_1) | (with_reducible apply put5_2) | (with_reducible apply put5_3) | (with_reducible apply put5_4) | (with_reducible apply put6_0) | (with_reducible apply put6_1) | (with_reducible apply put6_2) | (with_reducible apply put6_3) | (with_reducible apply put6_4) | (with_reducible apply put6_5) | (with_reducible refine blk_else (by omega) ?_) | (with_reducible refine blk_old ?_))), (by repeat' (first | (with_reducible exact Hk19.out) | (with_reducible exact heap_alloc_new _ _) | (with_reducible exact blk_new (by first | (simp; done) | omega)) | (with_reducible refine blk_drew ?_) | (with_reducible apply put1_0) | (with_reducible apply put2_0) | (with_reducible apply put2_1) | (with_reducible apply put3_0) | (with_reducible apply put3_1) | (with_reducible apply put3_2) | (with_reducible apply put4_0) | (with_reducible apply put4_1) | (with_reducible apply put4_2) | (with_reducible apply put4_3) | (with_reducible apply put5_0) | (with_reducible apply put5_1) | (with_reducible apply put5_2) | (with_reducible apply put5_3) | (with_reducible apply put5_4) | (with_reducible apply put6_0) | (with_reducible apply put6_1) | (with_reducible apply put6_2) | (with_reducible apply put6_3) | (with_reducible apply put6_4) | (with_reducible apply put6_5) | (with_reducible refine blk_else (by omega) ?_) | (with_reducible refine blk_old ?_))), (by repeat' (first | (with_reducible exact HB19.out) | (with_reducible exact Below.refl _ _) | (with_reducible refine below_drewN _ ?_) | (with_reducible refine Below.drew ?_) | (with_reducible refine Below.setCell ?_ (by first | (simp; done) | omega) _) | (with_reducible refine Below.alloc ?_ (by have := HB19.out.size; simp; omega) _)))⟩
        case measure => simp [intOf] <;> omega
      · obtain rfl : j = nn := by omega
        clear xb
        go_wp2_with fail
        refine cl_gen ?_
        intro v9 hv9
        have XB : Below w.heap.size w v9 := by
          rw [hv9]
          (repeat' (first | (with_reducible exact HB9.out) | (with_reducible exact Below.refl _ _) | (with_reducible refine below_drewN _ ?_) | (with_reducible refine Below.drew ?_) | (with_reducible refine Below.setCell ?_ (by first | (simp; done) | omega) _) | (with_reducible refine Below.alloc ?_ (by have := HB9.out.size; simp; omega) _)))
        clear hv9 HB9
        refine (LV.out _).mono ?_
        rintro e w10 ⟨rfl, bb⟩
        have HB10 := Lib.hid (bel_onto XB bb XB.size)
        clear XB bb
        go_wp2
        go_ret
        exact ⟨rfl, HB10.out⟩
end Go.Proofs.Ytmkgadndfiiacaa
