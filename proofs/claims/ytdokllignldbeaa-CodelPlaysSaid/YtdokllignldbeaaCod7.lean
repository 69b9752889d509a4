/-
  The law of layer 19 on all states: true for any configuration, state and packets. No condition.
-/
import Derived.Test.YtdokllignldbeaaCod4
import Derived.Test.YtdokllignldbeaaCod5
import Derived.Test.YtdokllignldbeaaOpen19
import Derived.Laws.StructEq
import Derived.RegionTactic
namespace Go.Proofs.Ytdokllignldbeaa
set_option linter.unusedVariables false
set_option linter.unusedSimpArgs false
open Go.ChangeShapes Go.WideShapes Go.ChangeAt Go.RowKit
attribute [local go_sem] alloc_drewN setCell_drewN

theorem below_c19 (w : World) (o : Obj) : Below w.heap.size w (w.alloc o) := (Below.refl _ w).alloc (Nat.le_refl _) _
theorem lt_of_blk {w : World} {b : Nat} {o : Obj} (h : w.heap[b]? = some o) : b < w.heap.size := (Array.getElem?_eq_some_iff.1 h).1
set_option maxRecDepth 100000 in
set_option maxHeartbeats 4000000 in
theorem plays19_long (tg iv mt : Int) (t0 : 0 ≤ tg) (t1 : tg ≤ 18446744073709551615) (v0 : 0 ≤ iv) (v1 : iv ≤ 18446744073709551615) (m0 : 0 ≤ mt) (m1 : mt ≤ 18446744073709551615) (f n c l : Int) (d : Bool) (hs : CS.ok ⟨f, n, c, l, d⟩) (a : Option Addr) (nn cc : Nat) (w : World) (hm : nn ≤ maxLen) (hn : 300 < nn) :
    Calls Try.prog 10 #[.agg #[.int .u64 tg, .int .u64 iv, .int .u64 mt], .agg #[.int .u64 f, .int .u64 n, .int .u64 c, .int .u64 l, .bool d], .slice a nn cc] w fun e w' => e = .returned (.bool true) ∧ Below w.heap.size w w' := by
  unfold maxLen at hm
  have h1 : (300 : Int) < nn := by omega
  have LV := Lib.hid (fun W => lives19 W)
  go_enter Try.func10, Try.ntmps10
  go_wp2_with (go_at_call 41; refine (LV.out _).mono ?_; rintro e w9 ⟨rfl, b9⟩)
  have HB9 := Lib.hid (below_onto (show Below w.heap.size w _ from by repeat' (first | exact Below.refl _ _ | refine Below.alloc ?_ (by simp; try omega) _)) b9 (by simp; try omega))
  clear b9
  go_wp2
  go_ret
  exact ⟨rfl, HB9.out⟩
set_option maxRecDepth 100000 in
set_option maxHeartbeats 4000000 in
theorem plays19_true (tg iv mt : Int) (t0 : 0 ≤ tg) (t1 : tg ≤ 18446744073709551615) (v0 : 0 ≤ iv) (v1 : iv ≤ 18446744073709551615) (m0 : 0 ≤ mt) (m1 : mt ≤ 18446744073709551615) (f n c l : Int) (d : Bool) (hs : CS.ok ⟨f, n, c, l, d⟩) (a : Option Addr) (nn cc : Nat) (fs : List Act19) (w : World) (hr : RowA19 w a nn fs) (hn : nn ≤ 300) (hok : cok iv = true) :
    Calls Try.prog 10 #[.agg #[.int .u64 tg, .int .u64 iv, .int .u64 mt], .agg #[.int .u64 f, .int .u64 n, .int .u64 c, .int .u64 l, .bool d], .slice a nn cc] w fun e w' => e = .returned (.bool true) ∧ Below w.heap.size w w' := by
  have CM := Lib.hid (fun W => cod_may tg iv mt v0 W)
  have CK := Lib.hid (fun W => cod_check tg iv mt v0 W)
  rw [hok] at CM CK
  rw [if_pos rfl] at CK
  have HR := Lib.hid hr
  have hm : Try.prog.eqGuardType Try.prog.depth 73 = false := by kernel_rfl
  have HS0 := Lib.hid hs
  clear hr hok hs
  go_enter Try.func10, Try.ntmps10
  go_wp2_with fail
  refine (CM.out _).mono ?_
  rintro e w' ⟨rfl, rfl⟩
  go_wp2_with fail
  refine (CK.out _).mono ?_
  rintro e w' ⟨rfl, rfl⟩
  go_upto_region 6 with (fail)
  have yb : Below w.heap.size w ((((w.alloc (.cells #[.int .u64 tg, .int .u64 iv, .int .u64 mt] 71)).alloc (.cells #[.int .u64 f, .int .u64 n, .int .u64 c, .int .u64 l, .bool d] 73)).alloc (.cells #[.int .u64 tg, .int .u64 iv, .int .u64 mt] 71)).alloc (.cells #[.int .u64 tg, .int .u64 iv, .int .u64 mt] 77)) := by repeat' (first | exact Below.refl _ _ | refine Below.alloc ?_ (by simp; try omega) _)
  have y0 : ((((w.alloc (.cells #[.int .u64 tg, .int .u64 iv, .int .u64 mt] 71)).alloc (.cells #[.int .u64 f, .int .u64 n, .int .u64 c, .int .u64 l, .bool d] 73)).alloc (.cells #[.int .u64 tg, .int .u64 iv, .int .u64 mt] 71)).alloc (.cells #[.int .u64 tg, .int .u64 iv, .int .u64 mt] 77)).heap[w.heap.size]? = some (.cells #[.int .u64 tg, .int .u64 iv, .int .u64 mt] 71 (0, 0)) := by repeat' (first | exact heap_alloc_new w _ | refine (heap_alloc_old _ _ (by simp; try omega)).trans ?_)
  have y1 : ((((w.alloc (.cells #[.int .u64 tg, .int .u64 iv, .int .u64 mt] 71)).alloc (.cells #[.int .u64 f, .int .u64 n, .int .u64 c, .int .u64 l, .bool d] 73)).alloc (.cells #[.int .u64 tg, .int .u64 iv, .int .u64 mt] 71)).alloc (.cells #[.int .u64 tg, .int .u64 iv, .int .u64 mt] 77)).heap[w.heap.size + 1]? = some (.cells #[.int .u64 f, .int .u64 n, .int .u64 c, .int .u64 l, .bool d] 73 (0, 0)) := by repeat' (first | exact alloc_two w _ _ | refine (heap_alloc_old _ _ (by simp; try omega)).trans ?_)
  generalize ((((w.alloc (.cells #[.int .u64 tg, .int .u64 iv, .int .u64 mt] 71)).alloc (.cells #[.int .u64 f, .int .u64 n, .int .u64 c, .int .u64 l, .bool d] 73)).alloc (.cells #[.int .u64 tg, .int .u64 iv, .int .u64 mt] 71)).alloc (.cells #[.int .u64 tg, .int .u64 iv, .int .u64 mt] 77)) = w1 at yb y0 y1 ⊢
  obtain ⟨B1, hB1⟩ : ∃ B1, B1 = w.heap.size + 1 := ⟨_, rfl⟩
  rw [← hB1] at y1 ⊢
  have l0_ := lt_of_blk y0
  have l1_ := lt_of_blk y1
  obtain ⟨e0_, e1_, e2_, e3_, e4_, -⟩ := cs_at y1
  have HB1 := Lib.hid yb; have X0 := Lib.hid y0; have X1 := Lib.hid y1
  have n01 : ¬ w.heap.size = B1 := by omega
  have n10 : ¬ B1 = w.heap.size := by omega
  have s1_ : w.heap.size ≤ B1 := by omega
  clear yb y0 y1 hB1
  go_wp2
  obtain ⟨B8, hB8⟩ : ∃ B8, B8 = w1.heap.size := ⟨_, rfl⟩
  rw [← hB8]
  have n08 : ¬ w.heap.size = B8 := by omega
  have n80 : ¬ B8 = w.heap.size := by omega
  have n18 : ¬ B1 = B8 := by omega
  have n81 : ¬ B8 = B1 := by omega
  have s8_ : w.heap.size ≤ B8 := by omega
  go_loopw [39, 9] (fun x y wr => ∃ (i : Nat) (now : Int) (s : CS), x = .int .i64 i ∧ i ≤ nn ∧ y = .int .u64 now ∧ 0 ≤ now ∧ now ≤ 18446744073709551615 ∧ s.ok ∧ wr.heap[w.heap.size]? = some (.cells #[.int .u64 tg, .int .u64 iv, .int .u64 mt] 71 (0, 0)) ∧ wr.heap[B1]? = some (.cells #[.int .u64 s.f, .int .u64 s.n, .int .u64 s.c, .int .u64 s.l, .bool s.d] 73 (0, 0)) ∧ wr.heap[B8]? = some (.cells #[.int .u64 s.f, .int .u64 s.n, .int .u64 s.c, .int .u64 s.l, .bool s.d] 78 (0, 0)) ∧ Below w.heap.size w wr) (fun x _ _ => nn - (intOf x).toNat)
  case atStart =>
    subst hB8
    exact ⟨0, 0, ⟨f, n, c, l, d⟩, rfl, Nat.zero_le _, rfl, by decide, by decide, HS0.out, (heap_alloc_old _ _ l0_).trans X0.out, (heap_alloc_old _ _ l1_).trans X1.out, heap_alloc_new _ _, HB1.out.alloc (by omega) _⟩
  case round =>
    clear hB8 X0 X1 HB1 l0_ l1_ e0_ e1_ e2_ e3_ e4_
    obtain ⟨i, now, ⟨sf, sn, sc, sl_, sd⟩, rfl, hi, rfl, h0, h1, hs, x0, x1, x8, hb⟩ := hrel
    dsimp only at x1 x8
    by_cases hlt : i < nn
    · obtain ⟨hzl, hzm, hzw, hzc⟩ := HR.out
      obtain ⟨b, off, rfl, hb0, hc⟩ := hzc (by omega)
      obtain ⟨cx0, cx1, cx2⟩ := hc i hlt
      have d0_ := (hb.cell (p := ⟨b, off + i * 3, none⟩) hb0).trans cx0
      have d1_ := (hb.cell (p := ⟨b, off + i * 3 + 1, none⟩) hb0).trans cx1
      have d2_ := (hb.cell (p := ⟨b, off + i * 3 + 2, none⟩) hb0).trans cx2
      have hxw : (fs.getD i Act19.nil).ok := hzw _ (by rw [List.getD_eq_getElem?_getD, List.getElem?_eq_getElem (by omega : i < fs.length)]; exact List.getElem_mem _)
      generalize fs.getD i Act19.nil = x at *
      obtain ⟨xl, xv, xh⟩ := x
      obtain ⟨⟨p0, p1⟩, ⟨p2, p3⟩, p4, p5⟩ := hxw
      dsimp only at p0 p1 p2 p3 p4 p5 d0_ d1_ d2_
      have AD := Lib.hid (fun W => add_ref now xl h0 h1 p0 p1 W)
      obtain ⟨k0, k1⟩ := cap_wd (show 0 ≤ now + xl by omega)
      generalize cap (now + xl) = nw at *
      have ST := Lib.hid (fun W => cod_step tg iv mt t0 v0 v1 m0 ⟨sf, sn, sc, sl_, sd⟩ hs nw xv xh k0 k1 p2 p4 W)
      have RST := Lib.hid (fun W => cod_rstep tg iv mt t0 v0 v1 m0 ⟨sf, sn, sc, sl_, sd⟩ hs nw xv xh k0 k1 p2 p4 W)
      have OK := Lib.hid (cst_ok (tg := tg) (iv := iv) (mt := mt) (now := nw) (wa := xv) (be := xh) hs v0 k0)
      unfold CS.val at ST RST
      dsimp only at ST RST
      generalize cst tg iv mt ⟨sf, sn, sc, sl_, sd⟩ nw xv xh = r at *
      obtain ⟨⟨rf, rn, rc, rl, rd⟩, rb⟩ := r
      dsimp only at ST RST OK
      have HB := Lib.hid hb
      have X0 := Lib.hid x0; have X1 := Lib.hid x1; have X8 := Lib.hid x8
      clear hb x0 x1 x8 hc cx0 cx1 cx2 hzc hzw hzl hzm hs
      go_wp2_with fail
      refine (AD.out _).mono ?_
      rintro e w3 ⟨rfl, b3⟩
      have c3 := below_c19 wr (.cells #[.int .u64 xl, .int .u64 xv, .int .u64 xh] 80)
      have A3 := Lib.hid ((b3.block _ (by simp)).trans (heap_alloc_new wr (.cells #[.int .u64 xl, .int .u64 xv, .int .u64 xh] 80)))
      have b3' := below_onto c3 b3 c3.size
      have Y0 := Lib.hid ((b3'.block _ (lt_of_blk X0.out)).trans X0.out)
      have Y1 := Lib.hid ((b3'.block _ (lt_of_blk X1.out)).trans X1.out)
      have Y8 := Lib.hid ((b3'.block _ (lt_of_blk X8.out)).trans X8.out)
      have HB3 := Lib.hid (below_onto HB.out b3' HB.out.size)
      clear b3 b3' c3 X0 X1 X8 HB d0_ d1_ d2_
      obtain ⟨a0_, a1_, a2_⟩ := cf_at Y0.out
      obtain ⟨m0_, m1_, m2_⟩ := cf_at A3.out
      obtain ⟨o0_, o1_, o2_, o3_, o4_, -⟩ := cs_at Y8.out
      go_wp2_with fail
      refine (ST.out _).mono ?_
      rintro e w4 ⟨rfl, b4⟩
      have Z0 := Lib.hid ((b4.block _ (lt_of_blk Y0.out)).trans Y0.out)
      have Z1 := Lib.hid ((b4.block _ (lt_of_blk Y1.out)).trans Y1.out)
      have Z8 := Lib.hid ((b4.block _ (lt_of_blk Y8.out)).trans Y8.out)
      have A4 := Lib.hid ((b4.block _ (lt_of_blk A3.out)).trans A3.out)
      have HB4 := Lib.hid (below_onto HB3.out b4 HB3.out.size)
      clear b4 Y0 Y1 Y8 A3 HB3 a0_ a1_ a2_ m0_ m1_ m2_ o0_ o1_ o2_ o3_ o4_
      obtain ⟨a0_, a1_, a2_⟩ := cf_at Z0.out
      obtain ⟨m0_, m1_, m2_⟩ := cf_at A4.out
      obtain ⟨e0_, e1_, e2_, e3_, e4_, -⟩ := cs_at Z1.out
      have l0_ := lt_of_blk Z0.out
      have l1_ := lt_of_blk Z1.out
      have l8_ := lt_of_blk Z8.out
      have la_ := lt_of_blk A4.out
      go_wp2_with fail
      refine (RST.out _).mono ?_
      rintro e w5 ⟨rfl, b5⟩
      have c5 := below_c19 w4 (.cells #[.int .u64 rf, .int .u64 rn, .int .u64 rc, .int .u64 rl, .bool rd] 78)
      have N5 := Lib.hid ((b5.block _ (by simp)).trans (heap_alloc_new w4 (.cells #[.int .u64 rf, .int .u64 rn, .int .u64 rc, .int .u64 rl, .bool rd] 78)))
      have b5' := below_onto c5 b5 c5.size
      have Y0 := Lib.hid ((b5'.block _ l0_).trans Z0.out)
      have Y1 := Lib.hid ((b5'.block _ l1_).trans Z1.out)
      have Y8 := Lib.hid ((b5'.block _ l8_).trans Z8.out)
      have HB5 := Lib.hid (below_onto HB4.out b5' HB4.out.size)
      have hbe : w4.heap.size ≠ B8 ∧ w4.heap.size ≠ B1 := by omega
      have l5_ := lt_of_blk N5.out
      clear b5 b5' c5 Z0 Z1 Z8 A4 HB4 a0_ a1_ a2_ m0_ m1_ m2_ e0_ e1_ e2_ e3_ e4_ l0_ l1_ l8_ la_
      obtain ⟨u0_, u1_, u2_, u3_, u4_, -⟩ := cs_at N5.out
      go_upto_region 16 with (fail)
      have c6 := below_c19 w5 (.cells #[.int .u64 rf, .int .u64 rn, .int .u64 rc, .int .u64 rl, .bool rd] 73)
      have y0 := (c6.block _ (lt_of_blk Y0.out)).trans Y0.out
      have y1 := (c6.block _ (lt_of_blk Y1.out)).trans Y1.out
      have y8 := (c6.block _ (lt_of_blk Y8.out)).trans Y8.out
      have yn := (c6.block _ (lt_of_blk N5.out)).trans N5.out
      have yw := heap_alloc_new w5 (.cells #[.int .u64 rf, .int .u64 rn, .int .u64 rc, .int .u64 rl, .bool rd] 73)
      have yb := below_onto HB5.out c6 HB5.out.size
      have q1_ : ¬ B1 = w4.heap.size := fun h => hbe.2 h.symm
      have q8_ : ¬ B8 = w4.heap.size := fun h => hbe.1 h.symm
      have r1_ : ¬ B1 = w5.heap.size := by have := lt_of_blk Y1.out; omega
      have r8_ : ¬ B8 = w5.heap.size := by have := lt_of_blk Y8.out; omega
      clear c6 u0_ u1_ u2_ u3_ u4_ Y0 Y1 Y8 N5 HB5 hbe l5_
      generalize (w5.alloc (.cells #[.int .u64 rf, .int .u64 rn, .int .u64 rc, .int .u64 rl, .bool rd] 73)) = w6 at y0 y1 y8 yn yw yb ⊢
      generalize w4.heap.size = BN at *
      generalize w5.heap.size = BW at *
      have n1_ : ¬ BN = B1 := fun h => q1_ h.symm
      have n8_ : ¬ BN = B8 := fun h => q8_ h.symm
      have p1_ : ¬ BW = B1 := fun h => r1_ h.symm
      have p8_ : ¬ BW = B8 := fun h => r8_ h.symm
      have Y0 := Lib.hid y0; have Y1 := Lib.hid y1; have Y8 := Lib.hid y8; have HB6 := Lib.hid yb
      obtain ⟨u0_, u1_, u2_, u3_, u4_, -⟩ := cs_at yn
      obtain ⟨v0_, v1_, v2_, v3_, v4_, -⟩ := cs_at yw
      obtain ⟨e0_, e1_, e2_, e3_, e4_, k0_, k1_, k2_, k3_, k4_⟩ := cs_at y1
      obtain ⟨o0_, o1_, o2_, o3_, o4_, q0_, qq1_, q2_, q3_, q4_⟩ := cs_at y8
      clear y0 y1 y8 yn yw yb
      go_region
      go_wp2
      go_roundw
      case rel =>
        have g0 : (((((w6.setCell ⟨B8, 0, none⟩ (.int .u64 rf)).setCell ⟨B8, 1, none⟩ (.int .u64 rn)).setCell ⟨B8, 2, none⟩ (.int .u64 rc)).setCell ⟨B8, 3, none⟩ (.int .u64 rl)).setCell ⟨B8, 4, none⟩ (.bool rd)).heap[w.heap.size]? = some (.cells #[.int .u64 tg, .int .u64 iv, .int .u64 mt] 71 (0, 0)) := (five_else w6 B8 _ n08 (.int .u64 rf) (.int .u64 rn) (.int .u64 rc) (.int .u64 rl) (.bool rd)).trans Y0.out
        have g1 : (((((w6.setCell ⟨B8, 0, none⟩ (.int .u64 rf)).setCell ⟨B8, 1, none⟩ (.int .u64 rn)).setCell ⟨B8, 2, none⟩ (.int .u64 rc)).setCell ⟨B8, 3, none⟩ (.int .u64 rl)).setCell ⟨B8, 4, none⟩ (.bool rd)).heap[B1]? = some (.cells #[.int .u64 sf, .int .u64 sn, .int .u64 sc, .int .u64 sl_, .bool sd] 73 (0, 0)) := (five_else w6 B8 B1 n18 (.int .u64 rf) (.int .u64 rn) (.int .u64 rc) (.int .u64 rl) (.bool rd)).trans Y1.out
        have g8 : (((((w6.setCell ⟨B8, 0, none⟩ (.int .u64 rf)).setCell ⟨B8, 1, none⟩ (.int .u64 rn)).setCell ⟨B8, 2, none⟩ (.int .u64 rc)).setCell ⟨B8, 3, none⟩ (.int .u64 rl)).setCell ⟨B8, 4, none⟩ (.bool rd)).heap[B8]? = some (.cells #[.int .u64 rf, .int .u64 rn, .int .u64 rc, .int .u64 rl, .bool rd] 78 (0, 0)) := five_put Y8.out (.int .u64 rf) (.int .u64 rn) (.int .u64 rc) (.int .u64 rl) (.bool rd)
        have gb : Below w.heap.size w (((((w6.setCell ⟨B8, 0, none⟩ (.int .u64 rf)).setCell ⟨B8, 1, none⟩ (.int .u64 rn)).setCell ⟨B8, 2, none⟩ (.int .u64 rc)).setCell ⟨B8, 3, none⟩ (.int .u64 rl)).setCell ⟨B8, 4, none⟩ (.bool rd)) := by
          repeat' (first | (with_reducible exact HB6.out) | refine Below.setCell ?_ s8_ _)
        generalize (((((w6.setCell ⟨B8, 0, none⟩ (.int .u64 rf)).setCell ⟨B8, 1, none⟩ (.int .u64 rn)).setCell ⟨B8, 2, none⟩ (.int .u64 rc)).setCell ⟨B8, 3, none⟩ (.int .u64 rl)).setCell ⟨B8, 4, none⟩ (.bool rd)) = w7 at g0 g1 g8 gb ⊢
        have f0 : (((((w7.setCell ⟨B1, 0, none⟩ (.int .u64 rf)).setCell ⟨B1, 1, none⟩ (.int .u64 rn)).setCell ⟨B1, 2, none⟩ (.int .u64 rc)).setCell ⟨B1, 3, none⟩ (.int .u64 rl)).setCell ⟨B1, 4, none⟩ (.bool rd)).heap[w.heap.size]? = some (.cells #[.int .u64 tg, .int .u64 iv, .int .u64 mt] 71 (0, 0)) := (five_else w7 B1 _ n01 (.int .u64 rf) (.int .u64 rn) (.int .u64 rc) (.int .u64 rl) (.bool rd)).trans g0
        have f1 : (((((w7.setCell ⟨B1, 0, none⟩ (.int .u64 rf)).setCell ⟨B1, 1, none⟩ (.int .u64 rn)).setCell ⟨B1, 2, none⟩ (.int .u64 rc)).setCell ⟨B1, 3, none⟩ (.int .u64 rl)).setCell ⟨B1, 4, none⟩ (.bool rd)).heap[B1]? = some (.cells #[.int .u64 rf, .int .u64 rn, .int .u64 rc, .int .u64 rl, .bool rd] 73 (0, 0)) := five_put g1 (.int .u64 rf) (.int .u64 rn) (.int .u64 rc) (.int .u64 rl) (.bool rd)
        have f8 : (((((w7.setCell ⟨B1, 0, none⟩ (.int .u64 rf)).setCell ⟨B1, 1, none⟩ (.int .u64 rn)).setCell ⟨B1, 2, none⟩ (.int .u64 rc)).setCell ⟨B1, 3, none⟩ (.int .u64 rl)).setCell ⟨B1, 4, none⟩ (.bool rd)).heap[B8]? = some (.cells #[.int .u64 rf, .int .u64 rn, .int .u64 rc, .int .u64 rl, .bool rd] 78 (0, 0)) := (five_else w7 B1 B8 n81 (.int .u64 rf) (.int .u64 rn) (.int .u64 rc) (.int .u64 rl) (.bool rd)).trans g8
        have fb : Below w.heap.size w (((((w7.setCell ⟨B1, 0, none⟩ (.int .u64 rf)).setCell ⟨B1, 1, none⟩ (.int .u64 rn)).setCell ⟨B1, 2, none⟩ (.int .u64 rc)).setCell ⟨B1, 3, none⟩ (.int .u64 rl)).setCell ⟨B1, 4, none⟩ (.bool rd)) := by
          repeat' (first | (with_reducible exact gb) | refine Below.setCell ?_ s1_ _)
        generalize (((((w7.setCell ⟨B1, 0, none⟩ (.int .u64 rf)).setCell ⟨B1, 1, none⟩ (.int .u64 rn)).setCell ⟨B1, 2, none⟩ (.int .u64 rc)).setCell ⟨B1, 3, none⟩ (.int .u64 rl)).setCell ⟨B1, 4, none⟩ (.bool rd)) = w8 at f0 f1 f8 fb ⊢
        exact ⟨i + 1, nw, ⟨rf, rn, rc, rl, rd⟩, by go_num, by omega, rfl, k0, k1, OK.out, f0, f1, f8, fb.drew⟩
      case measure => simp [intOf] <;> omega
    · obtain rfl : i = nn := by omega
      have HB := Lib.hid hb
      clear hb x0 x1 x8
      go_wp2_with fail
      refine (lives19 _).mono ?_
      rintro e w9 ⟨rfl, b9⟩
      have HB9 := Lib.hid (below_onto HB.out b9 HB.out.size)
      clear b9
      go_wp2
      go_ret
      exact ⟨rfl, HB9.out⟩
set_option maxRecDepth 100000 in
set_option maxHeartbeats 4000000 in
theorem plays19_false (tg iv mt : Int) (t0 : 0 ≤ tg) (t1 : tg ≤ 18446744073709551615) (v0 : 0 ≤ iv) (v1 : iv ≤ 18446744073709551615) (m0 : 0 ≤ mt) (m1 : mt ≤ 18446744073709551615) (f n c l : Int) (d : Bool) (hs : CS.ok ⟨f, n, c, l, d⟩) (a : Option Addr) (nn cc : Nat) (fs : List Act19) (w : World) (hr : RowA19 w a nn fs) (hn : nn ≤ 300) (hok : cok iv = false) :
    Calls Try.prog 10 #[.agg #[.int .u64 tg, .int .u64 iv, .int .u64 mt], .agg #[.int .u64 f, .int .u64 n, .int .u64 c, .int .u64 l, .bool d], .slice a nn cc] w fun e w' => e = .returned (.bool true) ∧ Below w.heap.size w w' := by
  have CM := Lib.hid (fun W => cod_may tg iv mt v0 W)
  have CK := Lib.hid (fun W => cod_check tg iv mt v0 W)
  rw [hok] at CM CK
  rw [if_neg (by decide)] at CK
  have HR := Lib.hid hr
  have hm : Try.prog.eqGuardType Try.prog.depth 73 = false := by kernel_rfl
  have HS0 := Lib.hid hs
  clear hr hok hs
  go_enter Try.func10, Try.ntmps10
  go_wp2_with fail
  refine (CM.out _).mono ?_
  rintro e w' ⟨rfl, rfl⟩
  go_wp2_with fail
  refine (CK.out _).mono ?_
  rintro e w' ⟨rfl, rfl⟩
  go_wp2_with fail
  refine (CK.out _).mono ?_
  rintro e w' ⟨rfl, rfl⟩
  go_upto_region 6 with (fail)
  have yb : Below w.heap.size w (((((w.alloc (.cells #[.int .u64 tg, .int .u64 iv, .int .u64 mt] 71)).alloc (.cells #[.int .u64 f, .int .u64 n, .int .u64 c, .int .u64 l, .bool d] 73)).alloc (.cells #[.int .u64 tg, .int .u64 iv, .int .u64 mt] 71)).alloc (.cells #[.int .u64 tg, .int .u64 iv, .int .u64 mt] 77)).alloc (.cells #[.int .u64 tg, .int .u64 iv, .int .u64 mt] 77)) := by repeat' (first | exact Below.refl _ _ | refine Below.alloc ?_ (by simp; try omega) _)
  have y0 : (((((w.alloc (.cells #[.int .u64 tg, .int .u64 iv, .int .u64 mt] 71)).alloc (.cells #[.int .u64 f, .int .u64 n, .int .u64 c, .int .u64 l, .bool d] 73)).alloc (.cells #[.int .u64 tg, .int .u64 iv, .int .u64 mt] 71)).alloc (.cells #[.int .u64 tg, .int .u64 iv, .int .u64 mt] 77)).alloc (.cells #[.int .u64 tg, .int .u64 iv, .int .u64 mt] 77)).heap[w.heap.size]? = some (.cells #[.int .u64 tg, .int .u64 iv, .int .u64 mt] 71 (0, 0)) := by repeat' (first | exact heap_alloc_new w _ | refine (heap_alloc_old _ _ (by simp; try omega)).trans ?_)
  have y1 : (((((w.alloc (.cells #[.int .u64 tg, .int .u64 iv, .int .u64 mt] 71)).alloc (.cells #[.int .u64 f, .int .u64 n, .int .u64 c, .int .u64 l, .bool d] 73)).alloc (.cells #[.int .u64 tg, .int .u64 iv, .int .u64 mt] 71)).alloc (.cells #[.int .u64 tg, .int .u64 iv, .int .u64 mt] 77)).alloc (.cells #[.int .u64 tg, .int .u64 iv, .int .u64 mt] 77)).heap[w.heap.size + 1]? = some (.cells #[.int .u64 f, .int .u64 n, .int .u64 c, .int .u64 l, .bool d] 73 (0, 0)) := by repeat' (first | exact alloc_two w _ _ | refine (heap_alloc_old _ _ (by simp; try omega)).trans ?_)
  generalize (((((w.alloc (.cells #[.int .u64 tg, .int .u64 iv, .int .u64 mt] 71)).alloc (.cells #[.int .u64 f, .int .u64 n, .int .u64 c, .int .u64 l, .bool d] 73)).alloc (.cells #[.int .u64 tg, .int .u64 iv, .int .u64 mt] 71)).alloc (.cells #[.int .u64 tg, .int .u64 iv, .int .u64 mt] 77)).alloc (.cells #[.int .u64 tg, .int .u64 iv, .int .u64 mt] 77)) = w1 at yb y0 y1 ⊢
  obtain ⟨B1, hB1⟩ : ∃ B1, B1 = w.heap.size + 1 := ⟨_, rfl⟩
  rw [← hB1] at y1 ⊢
  have l0_ := lt_of_blk y0
  have l1_ := lt_of_blk y1
  obtain ⟨e0_, e1_, e2_, e3_, e4_, -⟩ := cs_at y1
  have HB1 := Lib.hid yb; have X0 := Lib.hid y0; have X1 := Lib.hid y1
  have n01 : ¬ w.heap.size = B1 := by omega
  have n10 : ¬ B1 = w.heap.size := by omega
  have s1_ : w.heap.size ≤ B1 := by omega
  clear yb y0 y1 hB1
  go_wp2
  obtain ⟨B8, hB8⟩ : ∃ B8, B8 = w1.heap.size := ⟨_, rfl⟩
  rw [← hB8]
  have n08 : ¬ w.heap.size = B8 := by omega
  have n80 : ¬ B8 = w.heap.size := by omega
  have n18 : ¬ B1 = B8 := by omega
  have n81 : ¬ B8 = B1 := by omega
  have s8_ : w.heap.size ≤ B8 := by omega
  go_loopw [39, 9] (fun x y wr => ∃ (i : Nat) (now : Int) (s : CS), x = .int .i64 i ∧ i ≤ nn ∧ y = .int .u64 now ∧ 0 ≤ now ∧ now ≤ 18446744073709551615 ∧ s.ok ∧ wr.heap[w.heap.size]? = some (.cells #[.int .u64 tg, .int .u64 iv, .int .u64 mt] 71 (0, 0)) ∧ wr.heap[B1]? = some (.cells #[.int .u64 s.f, .int .u64 s.n, .int .u64 s.c, .int .u64 s.l, .bool s.d] 73 (0, 0)) ∧ wr.heap[B8]? = some (.cells #[.int .u64 s.f, .int .u64 s.n, .int .u64 s.c, .int .u64 s.l, .bool s.d] 78 (0, 0)) ∧ Below w.heap.size w wr) (fun x _ _ => nn - (intOf x).toNat)
  case atStart =>
    subst hB8
    exact ⟨0, 0, ⟨f, n, c, l, d⟩, rfl, Nat.zero_le _, rfl, by decide, by decide, HS0.out, (heap_alloc_old _ _ l0_).trans X0.out, (heap_alloc_old _ _ l1_).trans X1.out, heap_alloc_new _ _, HB1.out.alloc (by omega) _⟩
  case round =>
    clear hB8 X0 X1 HB1 l0_ l1_ e0_ e1_ e2_ e3_ e4_
    obtain ⟨i, now, ⟨sf, sn, sc, sl_, sd⟩, rfl, hi, rfl, h0, h1, hs, x0, x1, x8, hb⟩ := hrel
    dsimp only at x1 x8
    by_cases hlt : i < nn
    · obtain ⟨hzl, hzm, hzw, hzc⟩ := HR.out
      obtain ⟨b, off, rfl, hb0, hc⟩ := hzc (by omega)
      obtain ⟨cx0, cx1, cx2⟩ := hc i hlt
      have d0_ := (hb.cell (p := ⟨b, off + i * 3, none⟩) hb0).trans cx0
      have d1_ := (hb.cell (p := ⟨b, off + i * 3 + 1, none⟩) hb0).trans cx1
      have d2_ := (hb.cell (p := ⟨b, off + i * 3 + 2, none⟩) hb0).trans cx2
      have hxw : (fs.getD i Act19.nil).ok := hzw _ (by rw [List.getD_eq_getElem?_getD, List.getElem?_eq_getElem (by omega : i < fs.length)]; exact List.getElem_mem _)
      generalize fs.getD i Act19.nil = x at *
      obtain ⟨xl, xv, xh⟩ := x
      obtain ⟨⟨p0, p1⟩, ⟨p2, p3⟩, p4, p5⟩ := hxw
      dsimp only at p0 p1 p2 p3 p4 p5 d0_ d1_ d2_
      have AD := Lib.hid (fun W => add_ref now xl h0 h1 p0 p1 W)
      obtain ⟨k0, k1⟩ := cap_wd (show 0 ≤ now + xl by omega)
      generalize cap (now + xl) = nw at *
      have ST := Lib.hid (fun W => cod_step tg iv mt t0 v0 v1 m0 ⟨sf, sn, sc, sl_, sd⟩ hs nw xv xh k0 k1 p2 p4 W)
      have RST := Lib.hid (fun W => cod_rstep tg iv mt t0 v0 v1 m0 ⟨sf, sn, sc, sl_, sd⟩ hs nw xv xh k0 k1 p2 p4 W)
      have OK := Lib.hid (cst_ok (tg := tg) (iv := iv) (mt := mt) (now := nw) (wa := xv) (be := xh) hs v0 k0)
      unfold CS.val at ST RST
      dsimp only at ST RST
      generalize cst tg iv mt ⟨sf, sn, sc, sl_, sd⟩ nw xv xh = r at *
      obtain ⟨⟨rf, rn, rc, rl, rd⟩, rb⟩ := r
      dsimp only at ST RST OK
      have HB := Lib.hid hb
      have X0 := Lib.hid x0; have X1 := Lib.hid x1; have X8 := Lib.hid x8
      clear hb x0 x1 x8 hc cx0 cx1 cx2 hzc hzw hzl hzm hs
      go_wp2_with fail
      refine (AD.out _).mono ?_
      rintro e w3 ⟨rfl, b3⟩
      have c3 := below_c19 wr (.cells #[.int .u64 xl, .int .u64 xv, .int .u64 xh] 80)
      have A3 := Lib.hid ((b3.block _ (by simp)).trans (heap_alloc_new wr (.cells #[.int .u64 xl, .int .u64 xv, .int .u64 xh] 80)))
      have b3' := below_onto c3 b3 c3.size
      have Y0 := Lib.hid ((b3'.block _ (lt_of_blk X0.out)).trans X0.out)
      have Y1 := Lib.hid ((b3'.block _ (lt_of_blk X1.out)).trans X1.out)
      have Y8 := Lib.hid ((b3'.block _ (lt_of_blk X8.out)).trans X8.out)
      have HB3 := Lib.hid (below_onto HB.out b3' HB.out.size)
      clear b3 b3' c3 X0 X1 X8 HB d0_ d1_ d2_
      obtain ⟨a0_, a1_, a2_⟩ := cf_at Y0.out
      obtain ⟨m0_, m1_, m2_⟩ := cf_at A3.out
      obtain ⟨o0_, o1_, o2_, o3_, o4_, -⟩ := cs_at Y8.out
      go_wp2_with fail
      refine (ST.out _).mono ?_
      rintro e w4 ⟨rfl, b4⟩
      have Z0 := Lib.hid ((b4.block _ (lt_of_blk Y0.out)).trans Y0.out)
      have Z1 := Lib.hid ((b4.block _ (lt_of_blk Y1.out)).trans Y1.out)
      have Z8 := Lib.hid ((b4.block _ (lt_of_blk Y8.out)).trans Y8.out)
      have A4 := Lib.hid ((b4.block _ (lt_of_blk A3.out)).trans A3.out)
      have HB4 := Lib.hid (below_onto HB3.out b4 HB3.out.size)
      clear b4 Y0 Y1 Y8 A3 HB3 a0_ a1_ a2_ m0_ m1_ m2_ o0_ o1_ o2_ o3_ o4_
      obtain ⟨a0_, a1_, a2_⟩ := cf_at Z0.out
      obtain ⟨m0_, m1_, m2_⟩ := cf_at A4.out
      obtain ⟨e0_, e1_, e2_, e3_, e4_, -⟩ := cs_at Z1.out
      have l0_ := lt_of_blk Z0.out
      have l1_ := lt_of_blk Z1.out
      have l8_ := lt_of_blk Z8.out
      have la_ := lt_of_blk A4.out
      go_wp2_with fail
      refine (RST.out _).mono ?_
      rintro e w5 ⟨rfl, b5⟩
      have c5 := below_c19 w4 (.cells #[.int .u64 rf, .int .u64 rn, .int .u64 rc, .int .u64 rl, .bool rd] 78)
      have N5 := Lib.hid ((b5.block _ (by simp)).trans (heap_alloc_new w4 (.cells #[.int .u64 rf, .int .u64 rn, .int .u64 rc, .int .u64 rl, .bool rd] 78)))
      have b5' := below_onto c5 b5 c5.size
      have Y0 := Lib.hid ((b5'.block _ l0_).trans Z0.out)
      have Y1 := Lib.hid ((b5'.block _ l1_).trans Z1.out)
      have Y8 := Lib.hid ((b5'.block _ l8_).trans Z8.out)
      have HB5 := Lib.hid (below_onto HB4.out b5' HB4.out.size)
      have hbe : w4.heap.size ≠ B8 ∧ w4.heap.size ≠ B1 := by omega
      have l5_ := lt_of_blk N5.out
      clear b5 b5' c5 Z0 Z1 Z8 A4 HB4 a0_ a1_ a2_ m0_ m1_ m2_ e0_ e1_ e2_ e3_ e4_ l0_ l1_ l8_ la_
      obtain ⟨u0_, u1_, u2_, u3_, u4_, -⟩ := cs_at N5.out
      go_upto_region 16 with (fail)
      have c6 := below_c19 w5 (.cells #[.int .u64 rf, .int .u64 rn, .int .u64 rc, .int .u64 rl, .bool rd] 73)
      have y0 := (c6.block _ (lt_of_blk Y0.out)).trans Y0.out
      have y1 := (c6.block _ (lt_of_blk Y1.out)).trans Y1.out
      have y8 := (c6.block _ (lt_of_blk Y8.out)).trans Y8.out
      have yn := (c6.block _ (lt_of_blk N5.out)).trans N5.out
      have yw := heap_alloc_new w5 (.cells #[.int .u64 rf, .int .u64 rn, .int .u64 rc, .int .u64 rl, .bool rd] 73)
      have yb := below_onto HB5.out c6 HB5.out.size
      have q1_ : ¬ B1 = w4.heap.size := fun h => hbe.2 h.symm
      have q8_ : ¬ B8 = w4.heap.size := fun h => hbe.1 h.symm
      have r1_ : ¬ B1 = w5.heap.size := by have := lt_of_blk Y1.out; omega
      have r8_ : ¬ B8 = w5.heap.size := by have := lt_of_blk Y8.out; omega
      clear c6 u0_ u1_ u2_ u3_ u4_ Y0 Y1 Y8 N5 HB5 hbe l5_
      generalize (w5.alloc (.cells #[.int .u64 rf, .int .u64 rn, .int .u64 rc, .int .u64 rl, .bool rd] 73)) = w6 at y0 y1 y8 yn yw yb ⊢
      generalize w4.heap.size = BN at *
      generalize w5.heap.size = BW at *
      have n1_ : ¬ BN = B1 := fun h => q1_ h.symm
      have n8_ : ¬ BN = B8 := fun h => q8_ h.symm
      have p1_ : ¬ BW = B1 := fun h => r1_ h.symm
      have p8_ : ¬ BW = B8 := fun h => r8_ h.symm
      have Y0 := Lib.hid y0; have Y1 := Lib.hid y1; have Y8 := Lib.hid y8; have HB6 := Lib.hid yb
      obtain ⟨u0_, u1_, u2_, u3_, u4_, -⟩ := cs_at yn
      obtain ⟨v0_, v1_, v2_, v3_, v4_, -⟩ := cs_at yw
      obtain ⟨e0_, e1_, e2_, e3_, e4_, k0_, k1_, k2_, k3_, k4_⟩ := cs_at y1
      obtain ⟨o0_, o1_, o2_, o3_, o4_, q0_, qq1_, q2_, q3_, q4_⟩ := cs_at y8
      clear y0 y1 y8 yn yw yb
      go_region
      go_wp2
      go_roundw
      case rel =>
        have g0 : (((((w6.setCell ⟨B8, 0, none⟩ (.int .u64 rf)).setCell ⟨B8, 1, none⟩ (.int .u64 rn)).setCell ⟨B8, 2, none⟩ (.int .u64 rc)).setCell ⟨B8, 3, none⟩ (.int .u64 rl)).setCell ⟨B8, 4, none⟩ (.bool rd)).heap[w.heap.size]? = some (.cells #[.int .u64 tg, .int .u64 iv, .int .u64 mt] 71 (0, 0)) := (five_else w6 B8 _ n08 (.int .u64 rf) (.int .u64 rn) (.int .u64 rc) (.int .u64 rl) (.bool rd)).trans Y0.out
        have g1 : (((((w6.setCell ⟨B8, 0, none⟩ (.int .u64 rf)).setCell ⟨B8, 1, none⟩ (.int .u64 rn)).setCell ⟨B8, 2, none⟩ (.int .u64 rc)).setCell ⟨B8, 3, none⟩ (.int .u64 rl)).setCell ⟨B8, 4, none⟩ (.bool rd)).heap[B1]? = some (.cells #[.int .u64 sf, .int .u64 sn, .int .u64 sc, .int .u64 sl_, .bool sd] 73 (0, 0)) := (five_else w6 B8 B1 n18 (.int .u64 rf) (.int .u64 rn) (.int .u64 rc) (.int .u64 rl) (.bool rd)).trans Y1.out
        have g8 : (((((w6.setCell ⟨B8, 0, none⟩ (.int .u64 rf)).setCell ⟨B8, 1, none⟩ (.int .u64 rn)).setCell ⟨B8, 2, none⟩ (.int .u64 rc)).setCell ⟨B8, 3, none⟩ (.int .u64 rl)).setCell ⟨B8, 4, none⟩ (.bool rd)).heap[B8]? = some (.cells #[.int .u64 rf, .int .u64 rn, .int .u64 rc, .int .u64 rl, .bool rd] 78 (0, 0)) := five_put Y8.out (.int .u64 rf) (.int .u64 rn) (.int .u64 rc) (.int .u64 rl) (.bool rd)
        have gb : Below w.heap.size w (((((w6.setCell ⟨B8, 0, none⟩ (.int .u64 rf)).setCell ⟨B8, 1, none⟩ (.int .u64 rn)).setCell ⟨B8, 2, none⟩ (.int .u64 rc)).setCell ⟨B8, 3, none⟩ (.int .u64 rl)).setCell ⟨B8, 4, none⟩ (.bool rd)) := by
          repeat' (first | (with_reducible exact HB6.out) | refine Below.setCell ?_ s8_ _)
        generalize (((((w6.setCell ⟨B8, 0, none⟩ (.int .u64 rf)).setCell ⟨B8, 1, none⟩ (.int .u64 rn)).setCell ⟨B8, 2, none⟩ (.int .u64 rc)).setCell ⟨B8, 3, none⟩ (.int .u64 rl)).setCell ⟨B8, 4, none⟩ (.bool rd)) = w7 at g0 g1 g8 gb ⊢
        have f0 : (((((w7.setCell ⟨B1, 0, none⟩ (.int .u64 rf)).setCell ⟨B1, 1, none⟩ (.int .u64 rn)).setCell ⟨B1, 2, none⟩ (.int .u64 rc)).setCell ⟨B1, 3, none⟩ (.int .u64 rl)).setCell ⟨B1, 4, none⟩ (.bool rd)).heap[w.heap.size]? = some (.cells #[.int .u64 tg, .int .u64 iv, .int .u64 mt] 71 (0, 0)) := (five_else w7 B1 _ n01 (.int .u64 rf) (.int .u64 rn) (.int .u64 rc) (.int .u64 rl) (.bool rd)).trans g0
        have f1 : (((((w7.setCell ⟨B1, 0, none⟩ (.int .u64 rf)).setCell ⟨B1, 1, none⟩ (.int .u64 rn)).setCell ⟨B1, 2, none⟩ (.int .u64 rc)).setCell ⟨B1, 3, none⟩ (.int .u64 rl)).setCell ⟨B1, 4, none⟩ (.bool rd)).heap[B1]? = some (.cells #[.int .u64 rf, .int .u64 rn, .int .u64 rc, .int .u64 rl, .bool rd] 73 (0, 0)) := five_put g1 (.int .u64 rf) (.int .u64 rn) (.int .u64 rc) (.int .u64 rl) (.bool rd)
        have f8 : (((((w7.setCell ⟨B1, 0, none⟩ (.int .u64 rf)).setCell ⟨B1, 1, none⟩ (.int .u64 rn)).setCell ⟨B1, 2, none⟩ (.int .u64 rc)).setCell ⟨B1, 3, none⟩ (.int .u64 rl)).setCell ⟨B1, 4, none⟩ (.bool rd)).heap[B8]? = some (.cells #[.int .u64 rf, .int .u64 rn, .int .u64 rc, .int .u64 rl, .bool rd] 78 (0, 0)) := (five_else w7 B1 B8 n81 (.int .u64 rf) (.int .u64 rn) (.int .u64 rc) (.int .u64 rl) (.bool rd)).trans g8
        have fb : Below w.heap.size w (((((w7.setCell ⟨B1, 0, none⟩ (.int .u64 rf)).setCell ⟨B1, 1, none⟩ (.int .u64 rn)).setCell ⟨B1, 2, none⟩ (.int .u64 rc)).setCell ⟨B1, 3, none⟩ (.int .u64 rl)).setCell ⟨B1, 4, none⟩ (.bool rd)) := by
          repeat' (first | (with_reducible exact gb) | refine Below.setCell ?_ s1_ _)
        generalize (((((w7.setCell ⟨B1, 0, none⟩ (.int .u64 rf)).setCell ⟨B1, 1, none⟩ (.int .u64 rn)).setCell ⟨B1, 2, none⟩ (.int .u64 rc)).setCell ⟨B1, 3, none⟩ (.int .u64 rl)).setCell ⟨B1, 4, none⟩ (.bool rd)) = w8 at f0 f1 f8 fb ⊢
        exact ⟨i + 1, nw, ⟨rf, rn, rc, rl, rd⟩, by go_num, by omega, rfl, k0, k1, OK.out, f0, f1, f8, fb.drew⟩
      case measure => simp [intOf] <;> omega
    · obtain rfl : i = nn := by omega
      have HB := Lib.hid hb
      clear hb x0 x1 x8
      go_wp2_with fail
      refine (lives19 _).mono ?_
      rintro e w9 ⟨rfl, b9⟩
      have HB9 := Lib.hid (below_onto HB.out b9 HB.out.size)
      clear b9
      go_wp2
      go_ret
      exact ⟨rfl, HB9.out⟩
theorem walk_codelPlays (tg : Int) (t0 : 0 ≤ tg) (t1 : tg ≤ 18446744073709551615) (iv : Int) (v0 : 0 ≤ iv) (v1 : iv ≤ 18446744073709551615) (mt : Int) (m0 : 0 ≤ mt) (m1 : mt ≤ 18446744073709551615) (f : Int) (f0 : 0 ≤ f) (f1 : f ≤ 18446744073709551615) (n : Int) (g0 : 0 ≤ n) (g1 : n ≤ 18446744073709551615) (c : Int) (c0 : 0 ≤ c) (c1 : c ≤ 18446744073709551615) (l : Int) (l0 : 0 ≤ l) (l1 : l ≤ 18446744073709551615) (d : Bool) (a : Option Addr) (nn cc : Nat) (fs : List Act19) {w : World} (hr : RowA19 w a nn fs) (hc : nn ≤ cc) :
    Calls Try.prog 10 #[.agg #[.int .u64 tg, .int .u64 iv, .int .u64 mt], .agg #[.int .u64 f, .int .u64 n, .int .u64 c, .int .u64 l, .bool d], .slice a nn cc] w fun e w' => e = .returned (.bool true) ∧ Below w.heap.size w w' := by
  have hs : CS.ok ⟨f, n, c, l, d⟩ := ⟨⟨f0, f1⟩, ⟨g0, g1⟩, ⟨c0, c1⟩, l0, l1⟩
  by_cases hn : nn ≤ 300
  · by_cases hok : cok iv = true
    · exact plays19_true tg iv mt t0 t1 v0 v1 m0 m1 f n c l d hs a nn cc fs w hr hn hok
    · exact plays19_false tg iv mt t0 t1 v0 v1 m0 m1 f n c l d hs a nn cc fs w hr hn (by simpa using hok)
  · exact plays19_long tg iv mt t0 t1 v0 v1 m0 m1 f n c l d hs a nn cc w hr.2.1 (by omega)
end Go.Proofs.Ytdokllignldbeaa
