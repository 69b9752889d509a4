/-
  What the document's answer for layer 19's step returns for any configuration, state, times and bytes. No condition but that the numbers are words.
-/
import Derived.Test.YtdokllignldbeaaCod3
namespace Go.Proofs.Ytdokllignldbeaa
set_option linter.unusedVariables false
set_option linter.unusedSimpArgs false
open Go.ChangeShapes Go.WideShapes Go.ChangeAt Go.RowKit
attribute [local go_sem] alloc_drewN setCell_drewN

set_option maxRecDepth 100000 in
set_option maxHeartbeats 4000000 in
theorem rst_again (tg iv mt : Int) (t0 : 0 ≤ tg) (v0 : 0 ≤ iv) (v1 : iv ≤ 18446744073709551615) (m0 : 0 ≤ mt) (f n c l : Int) (f0 : 0 ≤ f) (f1 : f ≤ 18446744073709551615) (g0 : 0 ≤ n) (g1 : n ≤ 18446744073709551615) (c0 : 0 ≤ c) (c1 : c ≤ 18446744073709551615) (l0 : 0 ≤ l) (l1 : l ≤ 18446744073709551615) (now wa be : Int) (n0 : 0 ≤ now) (n1 : now ≤ 18446744073709551615) (a0 : 0 ≤ wa) (b0 : 0 ≤ be) (w : World) (hok : cok iv = true) (ht : tg ≤ wa) (hm : mt < be) (hf : ¬ f = 0) (hn : f ≤ now) (hx : n ≤ now) :
    Calls Try.prog 46 #[.agg #[.int .u64 tg, .int .u64 iv, .int .u64 mt], .agg #[.int .u64 f, .int .u64 n, .int .u64 c, .int .u64 l, .bool true], .int .u64 now, .int .u64 wa, .int .u64 be] w fun e w' => e = .returned (.tuple #[.agg #[.int .u64 f, .int .u64 (cap (n + prt iv (cap (c + 1)))), .int .u64 (cap (c + 1)), .int .u64 l, .bool true], .bool true]) ∧ Below w.heap.size w w' := by
  have CK := Lib.hid (fun W => cod_may tg iv mt v0 W)
  rw [hok] at CK
  obtain ⟨j0, j1⟩ := cok_iff.1 hok
  clear hok
  have x1_ : decide (tg ≤ wa) = true := decide_eq_true ht
  have x2_ : decide (mt < be) = true := decide_eq_true hm
  have y1_ : (f == 0) = false := by simp [hf]
  have y2_ : (f != 0) = true := by simp [hf]
  have z1_ : decide (f ≤ now) = true := decide_eq_true hn
  have u1_ : decide (now < n) = false := decide_eq_false (by omega)
  have AC := Lib.hid (fun W => add_ref c 1 c0 c1 (by decide) (by decide) W)
  obtain ⟨kx0, kx1⟩ := cap_wd (show 0 ≤ c + 1 by omega)
  generalize cap (c + 1) = cx at *
  have PT := Lib.hid (fun W => part_ref iv cx v0 v1 kx0 kx1 W)
  obtain ⟨px0, px1⟩ := prt_bd iv cx v0 j1 kx0
  generalize prt iv cx = px at *
  have AE := Lib.hid (fun W => add_ref n px g0 g1 px0 (by omega) W)
  generalize cap (n + px) = nx at *
  go_enter Try.func46, Try.ntmps46
  go_wp2_with fail
  refine (CK.out _).mono ?_
  rintro e w' ⟨rfl, rfl⟩
  have hx := three_at (Below.refl (((((w.alloc (.cells #[.int .u64 tg, .int .u64 iv, .int .u64 mt] 71)).alloc (.cells #[.int .u64 f, .int .u64 n, .int .u64 c, .int .u64 l, .bool true] 73)).alloc (.cells #[.int .u64 0, .int .u64 0, .int .u64 0, .int .u64 0, .bool false] 73)).alloc (.cells #[.int .u64 tg, .int .u64 iv, .int .u64 mt] 71)).heap.size) ((((w.alloc (.cells #[.int .u64 tg, .int .u64 iv, .int .u64 mt] 71)).alloc (.cells #[.int .u64 f, .int .u64 n, .int .u64 c, .int .u64 l, .bool true] 73)).alloc (.cells #[.int .u64 0, .int .u64 0, .int .u64 0, .int .u64 0, .bool false] 73)).alloc (.cells #[.int .u64 tg, .int .u64 iv, .int .u64 mt] 71)))
  have yb : Below w.heap.size w ((((w.alloc (.cells #[.int .u64 tg, .int .u64 iv, .int .u64 mt] 71)).alloc (.cells #[.int .u64 f, .int .u64 n, .int .u64 c, .int .u64 l, .bool true] 73)).alloc (.cells #[.int .u64 0, .int .u64 0, .int .u64 0, .int .u64 0, .bool false] 73)).alloc (.cells #[.int .u64 tg, .int .u64 iv, .int .u64 mt] 71)) := by
    repeat' (first | exact Below.refl _ _ | refine Below.alloc ?_ (by simp; try omega) _)
  generalize ((((w.alloc (.cells #[.int .u64 tg, .int .u64 iv, .int .u64 mt] 71)).alloc (.cells #[.int .u64 f, .int .u64 n, .int .u64 c, .int .u64 l, .bool true] 73)).alloc (.cells #[.int .u64 0, .int .u64 0, .int .u64 0, .int .u64 0, .bool false] 73)).alloc (.cells #[.int .u64 tg, .int .u64 iv, .int .u64 mt] 71)) = w1 at hx yb ⊢
  obtain ⟨x1, x2, x3⟩ := hx
  obtain ⟨B2, hB2⟩ : ∃ B2, B2 = w.heap.size + 1 + 1 := ⟨_, rfl⟩
  obtain ⟨B1, hB1⟩ : ∃ B1, B1 = w.heap.size + 1 := ⟨_, rfl⟩
  rw [← hB2] at x3 ⊢
  rw [← hB1] at x2 ⊢
  have n12 : ¬ B1 = B2 := by omega
  have n21 : ¬ B2 = B1 := by omega
  have n01 : ¬ w.heap.size = B1 := by omega
  have n02 : ¬ w.heap.size = B2 := by omega
  have n10 : ¬ B1 = w.heap.size := by omega
  have n20 : ¬ B2 = w.heap.size := by omega
  have s1_ : w.heap.size ≤ B1 := by omega
  have s2_ : w.heap.size ≤ B2 := by omega
  clear hB1 hB2
  have HB := Lib.hid yb
  have X1 := Lib.hid x1; have X2 := Lib.hid x2; have X3 := Lib.hid x3
  clear yb x1 x2 x3
  obtain ⟨a0_, a1_, a2_⟩ := cf_at X1.out
  obtain ⟨e0_, e1_, e2_, e3_, e4_, k0_, k1_, k2_, k3_, k4_⟩ := cs_at X2.out
  obtain ⟨o0_, o1_, o2_, o3_, o4_, q0_, q1_, q2_, q3_, q4_⟩ := cs_at X3.out
  go_wp2_with fail
  refine (AC.out _).mono ?_
  rintro e w2 ⟨rfl, b⟩
  have yb := below_onto HB.out b HB.out.size
  have y1 := (b.block _ (Array.getElem?_eq_some_iff.1 X1.out).1).trans X1.out
  have y2 := (b.block _ (Array.getElem?_eq_some_iff.1 X2.out).1).trans X2.out
  have y3 := (b.block _ (Array.getElem?_eq_some_iff.1 X3.out).1).trans X3.out
  clear HB X1 X2 X3 b a0_ a1_ a2_ e0_ e1_ e2_ e3_ e4_ k0_ k1_ k2_ k3_ k4_ o0_ o1_ o2_ o3_ o4_ q0_ q1_ q2_ q3_ q4_
  have HB := Lib.hid yb
  have X1 := Lib.hid y1; have X2 := Lib.hid y2; have X3 := Lib.hid y3
  clear yb y1 y2 y3
  obtain ⟨a0_, a1_, a2_⟩ := cf_at X1.out
  obtain ⟨e0_, e1_, e2_, e3_, e4_, k0_, k1_, k2_, k3_, k4_⟩ := cs_at X2.out
  obtain ⟨o0_, o1_, o2_, o3_, o4_, q0_, q1_, q2_, q3_, q4_⟩ := cs_at X3.out
  go_upto_region 16 with (fail)
  have y1 : (w2.setCell ⟨B1, 2, none⟩ (.int .u64 cx)).heap[w.heap.size]? = _ := ((heap_setCell_other _ ⟨B1, 2, none⟩ _ _ (by simp; omega)).trans X1.out)
  have y2 : (w2.setCell ⟨B1, 2, none⟩ (.int .u64 cx)).heap[B1]? = some (.cells #[.int .u64 f, .int .u64 n, .int .u64 cx, .int .u64 l, .bool true] 73 (0, 0)) := by simpa using (heap_put X2.out 2 (.int .u64 cx))
  have y3 : (w2.setCell ⟨B1, 2, none⟩ (.int .u64 cx)).heap[B2]? = _ := ((heap_setCell_other _ ⟨B1, 2, none⟩ _ _ (by simp; omega)).trans X3.out)
  have yb : Below w.heap.size w (w2.setCell ⟨B1, 2, none⟩ (.int .u64 cx)) := by
    repeat' (first | (with_reducible exact HB.out) | refine Below.setCell ?_ s1_ _)
  generalize (w2.setCell ⟨B1, 2, none⟩ (.int .u64 cx)) = w3 at y1 y2 y3 yb ⊢
  clear HB X1 X2 X3 a0_ a1_ a2_ e0_ e1_ e2_ e3_ e4_ k0_ k1_ k2_ k3_ k4_ o0_ o1_ o2_ o3_ o4_ q0_ q1_ q2_ q3_ q4_
  have HB := Lib.hid yb
  have X1 := Lib.hid y1; have X2 := Lib.hid y2; have X3 := Lib.hid y3
  clear yb y1 y2 y3
  obtain ⟨a0_, a1_, a2_⟩ := cf_at X1.out
  obtain ⟨e0_, e1_, e2_, e3_, e4_, k0_, k1_, k2_, k3_, k4_⟩ := cs_at X2.out
  obtain ⟨o0_, o1_, o2_, o3_, o4_, q0_, q1_, q2_, q3_, q4_⟩ := cs_at X3.out
  go_region_with (first | (go_at_call 91; refine (PT.out _).mono ?_; rintro e w21 ⟨rfl, b21⟩; have B21 : Below w3.heap.size w3 w21 := ⟨b21.os, b21.tape, b21.output, b21.size, b21.block⟩; have f21 := (B21.block _ (Array.getElem?_eq_some_iff.1 X2.out).1).trans X2.out; obtain ⟨h0_, h1_, h2_, h3_, h4_, i0_, i1_, i2_, i3_, i4_⟩ := cs_at f21; clear b21) | (go_at_call 44; refine (AE.out _).mono ?_; rintro e w22 ⟨rfl, b22⟩; have B22 := below_onto B21 b22 B21.size; have f22 := (b22.block _ (Array.getElem?_eq_some_iff.1 f21).1).trans f21; clear b22; obtain ⟨m0_, m1_, m2_, m3_, m4_, p0_, p1_, p2_, p3_, p4_⟩ := cs_at f22))
  all_goals
    clear f22 m0_ m1_ m2_ m3_ m4_ p0_ p1_ p2_ p3_ p4_ f21 B21 h0_ h1_ h2_ h3_ h4_ i0_ i1_ i2_ i3_ i4_
    have b := B22
    clear B22
    have yb := below_onto HB.out b HB.out.size
    have y1 := (b.block _ (Array.getElem?_eq_some_iff.1 X1.out).1).trans X1.out
    have y2 := (b.block _ (Array.getElem?_eq_some_iff.1 X2.out).1).trans X2.out
    have y3 := (b.block _ (Array.getElem?_eq_some_iff.1 X3.out).1).trans X3.out
    clear HB X1 X2 X3 b a0_ a1_ a2_ e0_ e1_ e2_ e3_ e4_ k0_ k1_ k2_ k3_ k4_ o0_ o1_ o2_ o3_ o4_ q0_ q1_ q2_ q3_ q4_
    have HB := Lib.hid yb
    have X1 := Lib.hid y1; have X2 := Lib.hid y2; have X3 := Lib.hid y3
    clear yb y1 y2 y3
    obtain ⟨a0_, a1_, a2_⟩ := cf_at X1.out
    obtain ⟨e0_, e1_, e2_, e3_, e4_, k0_, k1_, k2_, k3_, k4_⟩ := cs_at X2.out
    obtain ⟨o0_, o1_, o2_, o3_, o4_, q0_, q1_, q2_, q3_, q4_⟩ := cs_at X3.out
    have y1 : (w22.setCell ⟨B1, 1, none⟩ (.int .u64 nx)).heap[w.heap.size]? = _ := ((heap_setCell_other _ ⟨B1, 1, none⟩ _ _ (by simp; omega)).trans X1.out)
    have y2 : (w22.setCell ⟨B1, 1, none⟩ (.int .u64 nx)).heap[B1]? = some (.cells #[.int .u64 f, .int .u64 nx, .int .u64 cx, .int .u64 l, .bool true] 73 (0, 0)) := by simpa using (heap_put X2.out 1 (.int .u64 nx))
    have y3 : (w22.setCell ⟨B1, 1, none⟩ (.int .u64 nx)).heap[B2]? = _ := ((heap_setCell_other _ ⟨B1, 1, none⟩ _ _ (by simp; omega)).trans X3.out)
    have yb : Below w.heap.size w (w22.setCell ⟨B1, 1, none⟩ (.int .u64 nx)) := by
      repeat' (first | (with_reducible exact HB.out) | refine Below.setCell ?_ s1_ _)
    generalize (w22.setCell ⟨B1, 1, none⟩ (.int .u64 nx)) = w23 at y1 y2 y3 yb ⊢
    clear HB X1 X2 X3 a0_ a1_ a2_ e0_ e1_ e2_ e3_ e4_ k0_ k1_ k2_ k3_ k4_ o0_ o1_ o2_ o3_ o4_ q0_ q1_ q2_ q3_ q4_
    have HB := Lib.hid yb
    have X1 := Lib.hid y1; have X2 := Lib.hid y2; have X3 := Lib.hid y3
    clear yb y1 y2 y3
    obtain ⟨a0_, a1_, a2_⟩ := cf_at X1.out
    obtain ⟨e0_, e1_, e2_, e3_, e4_, k0_, k1_, k2_, k3_, k4_⟩ := cs_at X2.out
    obtain ⟨o0_, o1_, o2_, o3_, o4_, q0_, q1_, q2_, q3_, q4_⟩ := cs_at X3.out
    go_wp2
    (try simp only [Exit.inBlock, Exit.then])
    have y3 := five_put X3.out (.int .u64 f) (.int .u64 nx) (.int .u64 cx) (.int .u64 l) (.bool true)
    have yb : Below w.heap.size w (((((w23.setCell ⟨B2, 0, none⟩ (.int .u64 f)).setCell ⟨B2, 1, none⟩ (.int .u64 nx)).setCell ⟨B2, 2, none⟩ (.int .u64 cx)).setCell ⟨B2, 3, none⟩ (.int .u64 l)).setCell ⟨B2, 4, none⟩ (.bool true)) := by
      repeat' (first | (with_reducible exact HB.out) | refine Below.setCell ?_ s2_ _)
    clear a0_ a1_ a2_ e0_ e1_ e2_ e3_ e4_ k0_ k1_ k2_ k3_ k4_ o0_ o1_ o2_ o3_ o4_ q0_ q1_ q2_ q3_ q4_
    generalize (((((w23.setCell ⟨B2, 0, none⟩ (.int .u64 f)).setCell ⟨B2, 1, none⟩ (.int .u64 nx)).setCell ⟨B2, 2, none⟩ (.int .u64 cx)).setCell ⟨B2, 3, none⟩ (.int .u64 l)).setCell ⟨B2, 4, none⟩ (.bool true)) = w99 at y3 yb ⊢
    obtain ⟨o0_, o1_, o2_, o3_, o4_, -⟩ := cs_at y3
    refine bodyPost_ret (v := .tuple #[.agg #[.int .u64 f, .int .u64 nx, .int .u64 cx, .int .u64 l, .bool true], .bool true]) (by simp [results, Try.results46, go_sem, o0_, o1_, o2_, o3_, o4_]) rfl ⟨rfl, yb⟩
end Go.Proofs.Ytdokllignldbeaa
