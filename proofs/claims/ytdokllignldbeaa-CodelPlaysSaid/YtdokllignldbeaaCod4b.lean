/-
  What the document's answer for layer 19's step returns for any configuration, state, times and bytes. No condition but that the numbers are words.
-/
import Derived.Test.YtdokllignldbeaaCod3
namespace Go.Proofs.Ytdokllignldbeaa
set_option linter.unusedVariables false
set_option linter.unusedSimpArgs false
open Go.ChangeShapes Go.WideShapes Go.ChangeAt Go.RowKit
attribute [local go_sem] alloc_drewN setCell_drewN

set_option maxRecDepth 100000 in
set_option maxHeartbeats 4000000 in
theorem rst_wait (tg iv mt : Int) (t0 : 0 ≤ tg) (v0 : 0 ≤ iv) (v1 : iv ≤ 18446744073709551615) (m0 : 0 ≤ mt) (f n c l : Int) (f0 : 0 ≤ f) (f1 : f ≤ 18446744073709551615) (g0 : 0 ≤ n) (g1 : n ≤ 18446744073709551615) (c0 : 0 ≤ c) (c1 : c ≤ 18446744073709551615) (l0 : 0 ≤ l) (l1 : l ≤ 18446744073709551615) (now wa be : Int) (n0 : 0 ≤ now) (n1 : now ≤ 18446744073709551615) (a0 : 0 ≤ wa) (b0 : 0 ≤ be) (w : World) (hok : cok iv = true) (ht : tg ≤ wa) (hm : mt < be) (hf : ¬ f = 0) (hn : f ≤ now) (hx : now < n) :
    Calls Try.prog 46 #[.agg #[.int .u64 tg, .int .u64 iv, .int .u64 mt], .agg #[.int .u64 f, .int .u64 n, .int .u64 c, .int .u64 l, .bool true], .int .u64 now, .int .u64 wa, .int .u64 be] w fun e w' => e = .returned (.tuple #[.agg #[.int .u64 f, .int .u64 n, .int .u64 c, .int .u64 l, .bool true], .bool false]) ∧ Below w.heap.size w w' := by
  have CK := Lib.hid (fun W => cod_may tg iv mt v0 W)
  rw [hok] at CK
  obtain ⟨j0, j1⟩ := cok_iff.1 hok
  clear hok
  have x1_ : decide (tg ≤ wa) = true := decide_eq_true ht
  have x2_ : decide (mt < be) = true := decide_eq_true hm
  have y1_ : (f == 0) = false := by simp [hf]
  have y2_ : (f != 0) = true := by simp [hf]
  have z1_ : decide (f ≤ now) = true := decide_eq_true hn
  have u1_ : decide (now < n) = true := decide_eq_true hx
  go_enter Try.func46, Try.ntmps46
  go_wp2_with fail
  refine (CK.out _).mono ?_
  rintro e w' ⟨rfl, rfl⟩
  have hx := three_at (Below.refl (((((w.alloc (.cells #[.int .u64 tg, .int .u64 iv, .int .u64 mt] 71)).alloc (.cells #[.int .u64 f, .int .u64 n, .int .u64 c, .int .u64 l, .bool true] 73)).alloc (.cells #[.int .u64 0, .int .u64 0, .int .u64 0, .int .u64 0, .bool false] 73)).alloc (.cells #[.int .u64 tg, .int .u64 iv, .int .u64 mt] 71)).heap.size) ((((w.alloc (.cells #[.int .u64 tg, .int .u64 iv, .int .u64 mt] 71)).alloc (.cells #[.int .u64 f, .int .u64 n, .int .u64 c, .int .u64 l, .bool true] 73)).alloc (.cells #[.int .u64 0, .int .u64 0, .int .u64 0, .int .u64 0, .bool false] 73)).alloc (.cells #[.int .u64 tg, .int .u64 iv, .int .u64 mt] 71)))
  have yb : Below w.heap.size w ((((w.alloc (.cells #[.int .u64 tg, .int .u64 iv, .int .u64 mt] 71)).alloc (.cells #[.int .u64 f, .int .u64 n, .int .u64 c, .int .u64 l, .bool true] 73)).alloc (.cells #[.int .u64 0, .int .u64 0, .int .u64 0, .int .u64 0, .bool false] 73)).alloc (.cells #[.int .u64 tg, .int .u64 iv, .int .u64 mt] 71)) := by
    repeat' (first | exact Below.refl _ _ | refine Below.alloc ?_ (by simp; try omega) _)
  generalize ((((w.alloc (.cells #[.int .u64 tg, .int .u64 iv, .int .u64 mt] 71)).alloc (.cells #[.int .u64 f, .int .u64 n, .int .u64 c, .int .u64 l, .bool true] 73)).alloc (.cells #[.int .u64 0, .int .u64 0, .int .u64 0, .int .u64 0, .bool false] 73)).alloc (.cells #[.int .u64 tg, .int .u64 iv, .int .u64 mt] 71)) = w1 at hx yb ⊢
  obtain ⟨x1, x2, x3⟩ := hx
  obtain ⟨B2, hB2⟩ : ∃ B2, B2 = w.heap.size + 1 + 1 := ⟨_, rfl⟩
  obtain ⟨B1, hB1⟩ : ∃ B1, B1 = w.heap.size + 1 := ⟨_, rfl⟩
  rw [← hB2] at x3 ⊢
  rw [← hB1] at x2 ⊢
  have n12 : ¬ B1 = B2 := by omega
  have n21 : ¬ B2 = B1 := by omega
  have n01 : ¬ w.heap.size = B1 := by omega
  have n02 : ¬ w.heap.size = B2 := by omega
  have n10 : ¬ B1 = w.heap.size := by omega
  have n20 : ¬ B2 = w.heap.size := by omega
  have s1_ : w.heap.size ≤ B1 := by omega
  have s2_ : w.heap.size ≤ B2 := by omega
  clear hB1 hB2
  have HB := Lib.hid yb
  have X1 := Lib.hid x1; have X2 := Lib.hid x2; have X3 := Lib.hid x3
  clear yb x1 x2 x3
  obtain ⟨a0_, a1_, a2_⟩ := cf_at X1.out
  obtain ⟨e0_, e1_, e2_, e3_, e4_, k0_, k1_, k2_, k3_, k4_⟩ := cs_at X2.out
  obtain ⟨o0_, o1_, o2_, o3_, o4_, q0_, q1_, q2_, q3_, q4_⟩ := cs_at X3.out
  go_wp2
  (try simp only [Exit.inBlock, Exit.then])
  have y3 := five_put X3.out (.int .u64 f) (.int .u64 n) (.int .u64 c) (.int .u64 l) (.bool true)
  have yb : Below w.heap.size w (((((w1.setCell ⟨B2, 0, none⟩ (.int .u64 f)).setCell ⟨B2, 1, none⟩ (.int .u64 n)).setCell ⟨B2, 2, none⟩ (.int .u64 c)).setCell ⟨B2, 3, none⟩ (.int .u64 l)).setCell ⟨B2, 4, none⟩ (.bool true)) := by
    repeat' (first | (with_reducible exact HB.out) | refine Below.setCell ?_ s2_ _)
  clear a0_ a1_ a2_ e0_ e1_ e2_ e3_ e4_ k0_ k1_ k2_ k3_ k4_ o0_ o1_ o2_ o3_ o4_ q0_ q1_ q2_ q3_ q4_
  generalize (((((w1.setCell ⟨B2, 0, none⟩ (.int .u64 f)).setCell ⟨B2, 1, none⟩ (.int .u64 n)).setCell ⟨B2, 2, none⟩ (.int .u64 c)).setCell ⟨B2, 3, none⟩ (.int .u64 l)).setCell ⟨B2, 4, none⟩ (.bool true)) = w99 at y3 yb ⊢
  obtain ⟨o0_, o1_, o2_, o3_, o4_, -⟩ := cs_at y3
  refine bodyPost_ret (v := .tuple #[.agg #[.int .u64 f, .int .u64 n, .int .u64 c, .int .u64 l, .bool true], .bool false]) (by simp [results, Try.results46, go_sem, o0_, o1_, o2_, o3_, o4_]) rfl ⟨rfl, yb⟩
set_option maxRecDepth 100000 in
set_option maxHeartbeats 4000000 in
theorem rst_beg1 (tg iv mt : Int) (t0 : 0 ≤ tg) (v0 : 0 ≤ iv) (v1 : iv ≤ 18446744073709551615) (m0 : 0 ≤ mt) (f n c l : Int) (f0 : 0 ≤ f) (f1 : f ≤ 18446744073709551615) (g0 : 0 ≤ n) (g1 : n ≤ 18446744073709551615) (c0 : 0 ≤ c) (c1 : c ≤ 18446744073709551615) (l0 : 0 ≤ l) (l1 : l ≤ 18446744073709551615) (now wa be : Int) (n0 : 0 ≤ now) (n1 : now ≤ 18446744073709551615) (a0 : 0 ≤ wa) (b0 : 0 ≤ be) (w : World) (hok : cok iv = true) (ht : tg ≤ wa) (hm : mt < be) (hf : ¬ f = 0) (hn : f ≤ now) (hs : sub0 c l ≤ 1) :
    Calls Try.prog 46 #[.agg #[.int .u64 tg, .int .u64 iv, .int .u64 mt], .agg #[.int .u64 f, .int .u64 n, .int .u64 c, .int .u64 l, .bool false], .int .u64 now, .int .u64 wa, .int .u64 be] w fun e w' => e = .returned (.tuple #[.agg #[.int .u64 f, .int .u64 (cap (now + prt iv (beg1 iv n c l now))), .int .u64 (beg1 iv n c l now), .int .u64 (beg1 iv n c l now), .bool true], .bool true]) ∧ Below w.heap.size w w' := by
  have CK := Lib.hid (fun W => cod_may tg iv mt v0 W)
  rw [hok] at CK
  obtain ⟨j0, j1⟩ := cok_iff.1 hok
  clear hok
  have x1_ : decide (tg ≤ wa) = true := decide_eq_true ht
  have x2_ : decide (mt < be) = true := decide_eq_true hm
  have y1_ : (f == 0) = false := by simp [hf]
  have y2_ : (f != 0) = true := by simp [hf]
  have z1_ : decide (f ≤ now) = true := decide_eq_true hn
  have SB := Lib.hid (fun W => sub_ref c l c0 c1 l0 l1 W)
  have SX := Lib.hid (fun W => (sub_ref now n n0 n1 g0 g1 W).mono (R' := fun e w' => e = .returned (.int .u64 (sub0 now n)) ∧ w' = W) (by rintro e w' ⟨rfl, rfl⟩; exact ⟨rfl, rfl⟩))
  have w16 : IntKind.u64.wrap (16 * iv) = 16 * iv := by rw [IntKind.wrap_u64]; omega
  obtain ⟨s0, s1⟩ := sub0_bd (a := c) (b := l) c0 c1 l0
  obtain ⟨tt0, tt1⟩ := sub0_bd (a := now) (b := n) n0 n1 g0
  have hb : beg1 iv n c l now = 1 := by unfold beg1; rw [if_pos (Or.inl hs)]
  rw [hb]
  clear hb
  generalize sub0 c l = s at *
  generalize sub0 now n = t at *
  have gg1 : decide (1 < s) = false := decide_eq_false (by omega)
  have PT := Lib.hid (fun W => part_ref iv 1 v0 v1 (by omega) (by omega) W)
  obtain ⟨px0, px1⟩ := prt_bd iv 1 v0 j1 (by omega)
  generalize prt iv 1 = p at *
  have AE := Lib.hid (fun W => add_ref now p n0 n1 px0 (by omega) W)
  generalize cap (now + p) = q at *
  go_enter Try.func46, Try.ntmps46
  go_wp2_with fail
  refine (CK.out _).mono ?_
  rintro e w' ⟨rfl, rfl⟩
  have hx := three_at (Below.refl (((((w.alloc (.cells #[.int .u64 tg, .int .u64 iv, .int .u64 mt] 71)).alloc (.cells #[.int .u64 f, .int .u64 n, .int .u64 c, .int .u64 l, .bool false] 73)).alloc (.cells #[.int .u64 0, .int .u64 0, .int .u64 0, .int .u64 0, .bool false] 73)).alloc (.cells #[.int .u64 tg, .int .u64 iv, .int .u64 mt] 71)).heap.size) ((((w.alloc (.cells #[.int .u64 tg, .int .u64 iv, .int .u64 mt] 71)).alloc (.cells #[.int .u64 f, .int .u64 n, .int .u64 c, .int .u64 l, .bool false] 73)).alloc (.cells #[.int .u64 0, .int .u64 0, .int .u64 0, .int .u64 0, .bool false] 73)).alloc (.cells #[.int .u64 tg, .int .u64 iv, .int .u64 mt] 71)))
  have yb : Below w.heap.size w ((((w.alloc (.cells #[.int .u64 tg, .int .u64 iv, .int .u64 mt] 71)).alloc (.cells #[.int .u64 f, .int .u64 n, .int .u64 c, .int .u64 l, .bool false] 73)).alloc (.cells #[.int .u64 0, .int .u64 0, .int .u64 0, .int .u64 0, .bool false] 73)).alloc (.cells #[.int .u64 tg, .int .u64 iv, .int .u64 mt] 71)) := by
    repeat' (first | exact Below.refl _ _ | refine Below.alloc ?_ (by simp; try omega) _)
  generalize ((((w.alloc (.cells #[.int .u64 tg, .int .u64 iv, .int .u64 mt] 71)).alloc (.cells #[.int .u64 f, .int .u64 n, .int .u64 c, .int .u64 l, .bool false] 73)).alloc (.cells #[.int .u64 0, .int .u64 0, .int .u64 0, .int .u64 0, .bool false] 73)).alloc (.cells #[.int .u64 tg, .int .u64 iv, .int .u64 mt] 71)) = w1 at hx yb ⊢
  obtain ⟨x1, x2, x3⟩ := hx
  obtain ⟨B2, hB2⟩ : ∃ B2, B2 = w.heap.size + 1 + 1 := ⟨_, rfl⟩
  obtain ⟨B1, hB1⟩ : ∃ B1, B1 = w.heap.size + 1 := ⟨_, rfl⟩
  rw [← hB2] at x3 ⊢
  rw [← hB1] at x2 ⊢
  have n12 : ¬ B1 = B2 := by omega
  have n21 : ¬ B2 = B1 := by omega
  have n01 : ¬ w.heap.size = B1 := by omega
  have n02 : ¬ w.heap.size = B2 := by omega
  have n10 : ¬ B1 = w.heap.size := by omega
  have n20 : ¬ B2 = w.heap.size := by omega
  have s1_ : w.heap.size ≤ B1 := by omega
  have s2_ : w.heap.size ≤ B2 := by omega
  clear hB1 hB2
  have HB := Lib.hid yb
  have X1 := Lib.hid x1; have X2 := Lib.hid x2; have X3 := Lib.hid x3
  clear yb x1 x2 x3
  obtain ⟨a0_, a1_, a2_⟩ := cf_at X1.out
  obtain ⟨e0_, e1_, e2_, e3_, e4_, k0_, k1_, k2_, k3_, k4_⟩ := cs_at X2.out
  obtain ⟨o0_, o1_, o2_, o3_, o4_, q0_, q1_, q2_, q3_, q4_⟩ := cs_at X3.out
  go_upto_region 21 with (fail)
  have y1 : (w1.setCell ⟨B1, 4, none⟩ (.bool true)).heap[w.heap.size]? = _ := ((heap_setCell_other _ ⟨B1, 4, none⟩ _ _ (by simp; omega)).trans X1.out)
  have y2 : (w1.setCell ⟨B1, 4, none⟩ (.bool true)).heap[B1]? = some (.cells #[.int .u64 f, .int .u64 n, .int .u64 c, .int .u64 l, .bool true] 73 (0, 0)) := by simpa using (heap_put X2.out 4 (.bool true))
  have y3 : (w1.setCell ⟨B1, 4, none⟩ (.bool true)).heap[B2]? = _ := ((heap_setCell_other _ ⟨B1, 4, none⟩ _ _ (by simp; omega)).trans X3.out)
  have yb : Below w.heap.size w (w1.setCell ⟨B1, 4, none⟩ (.bool true)) := by
    repeat' (first | (with_reducible exact HB.out) | refine Below.setCell ?_ s1_ _)
  generalize (w1.setCell ⟨B1, 4, none⟩ (.bool true)) = w2 at y1 y2 y3 yb ⊢
  clear HB X1 X2 X3 a0_ a1_ a2_ e0_ e1_ e2_ e3_ e4_ k0_ k1_ k2_ k3_ k4_ o0_ o1_ o2_ o3_ o4_ q0_ q1_ q2_ q3_ q4_
  have HB := Lib.hid yb
  have X1 := Lib.hid y1; have X2 := Lib.hid y2; have X3 := Lib.hid y3
  clear yb y1 y2 y3
  obtain ⟨a0_, a1_, a2_⟩ := cf_at X1.out
  obtain ⟨e0_, e1_, e2_, e3_, e4_, k0_, k1_, k2_, k3_, k4_⟩ := cs_at X2.out
  obtain ⟨o0_, o1_, o2_, o3_, o4_, q0_, q1_, q2_, q3_, q4_⟩ := cs_at X3.out
  go_wp2_with fail
  refine (SB.out _).mono ?_
  rintro e w' ⟨rfl, rfl⟩
  go_wp2
  go_quiet ((go_at_call 92; exact Calls.quiet_of_same (SX.out _)))
  have b : Below w2.heap.size w2 (w2.drewN nq) := below_drewN _ (Below.refl _ _)
  generalize (w2.drewN nq) = w3 at b ⊢
  have yb := below_onto HB.out b HB.out.size
  have y1 := (b.block _ (Array.getElem?_eq_some_iff.1 X1.out).1).trans X1.out
  have y2 := (b.block _ (Array.getElem?_eq_some_iff.1 X2.out).1).trans X2.out
  have y3 := (b.block _ (Array.getElem?_eq_some_iff.1 X3.out).1).trans X3.out
  clear HB X1 X2 X3 b a0_ a1_ a2_ e0_ e1_ e2_ e3_ e4_ k0_ k1_ k2_ k3_ k4_ o0_ o1_ o2_ o3_ o4_ q0_ q1_ q2_ q3_ q4_
  have HB := Lib.hid yb
  have X1 := Lib.hid y1; have X2 := Lib.hid y2; have X3 := Lib.hid y3
  clear yb y1 y2 y3
  obtain ⟨a0_, a1_, a2_⟩ := cf_at X1.out
  obtain ⟨e0_, e1_, e2_, e3_, e4_, k0_, k1_, k2_, k3_, k4_⟩ := cs_at X2.out
  obtain ⟨o0_, o1_, o2_, o3_, o4_, q0_, q1_, q2_, q3_, q4_⟩ := cs_at X3.out
  go_upto_region 25 with (fail)
  have y1 : (w3.setCell ⟨B1, 2, none⟩ (.int .u64 1)).heap[w.heap.size]? = _ := ((heap_setCell_other _ ⟨B1, 2, none⟩ _ _ (by simp; omega)).trans X1.out)
  have y2 : (w3.setCell ⟨B1, 2, none⟩ (.int .u64 1)).heap[B1]? = some (.cells #[.int .u64 f, .int .u64 n, .int .u64 1, .int .u64 l, .bool true] 73 (0, 0)) := by simpa using (heap_put X2.out 2 (.int .u64 1))
  have y3 : (w3.setCell ⟨B1, 2, none⟩ (.int .u64 1)).heap[B2]? = _ := ((heap_setCell_other _ ⟨B1, 2, none⟩ _ _ (by simp; omega)).trans X3.out)
  have yb : Below w.heap.size w (w3.setCell ⟨B1, 2, none⟩ (.int .u64 1)) := by
    repeat' (first | (with_reducible exact HB.out) | refine Below.setCell ?_ s1_ _)
  generalize (w3.setCell ⟨B1, 2, none⟩ (.int .u64 1)) = w4 at y1 y2 y3 yb ⊢
  clear HB X1 X2 X3 a0_ a1_ a2_ e0_ e1_ e2_ e3_ e4_ k0_ k1_ k2_ k3_ k4_ o0_ o1_ o2_ o3_ o4_ q0_ q1_ q2_ q3_ q4_
  have HB := Lib.hid yb
  have X1 := Lib.hid y1; have X2 := Lib.hid y2; have X3 := Lib.hid y3
  clear yb y1 y2 y3
  obtain ⟨a0_, a1_, a2_⟩ := cf_at X1.out
  obtain ⟨e0_, e1_, e2_, e3_, e4_, k0_, k1_, k2_, k3_, k4_⟩ := cs_at X2.out
  obtain ⟨o0_, o1_, o2_, o3_, o4_, q0_, q1_, q2_, q3_, q4_⟩ := cs_at X3.out
  go_wp2_with fail
  refine (PT.out _).mono ?_
  rintro e w5 ⟨rfl, b⟩
  have yb := below_onto HB.out b HB.out.size
  have y1 := (b.block _ (Array.getElem?_eq_some_iff.1 X1.out).1).trans X1.out
  have y2 := (b.block _ (Array.getElem?_eq_some_iff.1 X2.out).1).trans X2.out
  have y3 := (b.block _ (Array.getElem?_eq_some_iff.1 X3.out).1).trans X3.out
  clear HB X1 X2 X3 b a0_ a1_ a2_ e0_ e1_ e2_ e3_ e4_ k0_ k1_ k2_ k3_ k4_ o0_ o1_ o2_ o3_ o4_ q0_ q1_ q2_ q3_ q4_
  have HB := Lib.hid yb
  have X1 := Lib.hid y1; have X2 := Lib.hid y2; have X3 := Lib.hid y3
  clear yb y1 y2 y3
  obtain ⟨a0_, a1_, a2_⟩ := cf_at X1.out
  obtain ⟨e0_, e1_, e2_, e3_, e4_, k0_, k1_, k2_, k3_, k4_⟩ := cs_at X2.out
  obtain ⟨o0_, o1_, o2_, o3_, o4_, q0_, q1_, q2_, q3_, q4_⟩ := cs_at X3.out
  go_wp2_with fail
  refine (AE.out _).mono ?_
  rintro e w6 ⟨rfl, b⟩
  have yb := below_onto HB.out b HB.out.size
  have y1 := (b.block _ (Array.getElem?_eq_some_iff.1 X1.out).1).trans X1.out
  have y2 := (b.block _ (Array.getElem?_eq_some_iff.1 X2.out).1).trans X2.out
  have y3 := (b.block _ (Array.getElem?_eq_some_iff.1 X3.out).1).trans X3.out
  clear HB X1 X2 X3 b a0_ a1_ a2_ e0_ e1_ e2_ e3_ e4_ k0_ k1_ k2_ k3_ k4_ o0_ o1_ o2_ o3_ o4_ q0_ q1_ q2_ q3_ q4_
  have HB := Lib.hid yb
  have X1 := Lib.hid y1; have X2 := Lib.hid y2; have X3 := Lib.hid y3
  clear yb y1 y2 y3
  obtain ⟨a0_, a1_, a2_⟩ := cf_at X1.out
  obtain ⟨e0_, e1_, e2_, e3_, e4_, k0_, k1_, k2_, k3_, k4_⟩ := cs_at X2.out
  obtain ⟨o0_, o1_, o2_, o3_, o4_, q0_, q1_, q2_, q3_, q4_⟩ := cs_at X3.out
  go_upto_region 27 with (fail)
  have y1 : ((w6.setCell ⟨B1, 1, none⟩ (.int .u64 q)).setCell ⟨B1, 3, none⟩ (.int .u64 1)).heap[w.heap.size]? = _ := ((heap_setCell_other _ ⟨B1, 3, none⟩ _ _ (by simp; omega)).trans ((heap_setCell_other _ ⟨B1, 1, none⟩ _ _ (by simp; omega)).trans X1.out))
  have y2 : ((w6.setCell ⟨B1, 1, none⟩ (.int .u64 q)).setCell ⟨B1, 3, none⟩ (.int .u64 1)).heap[B1]? = some (.cells #[.int .u64 f, .int .u64 q, .int .u64 1, .int .u64 1, .bool true] 73 (0, 0)) := by simpa using (heap_put (heap_put X2.out 1 (.int .u64 q)) 3 (.int .u64 1))
  have y3 : ((w6.setCell ⟨B1, 1, none⟩ (.int .u64 q)).setCell ⟨B1, 3, none⟩ (.int .u64 1)).heap[B2]? = _ := ((heap_setCell_other _ ⟨B1, 3, none⟩ _ _ (by simp; omega)).trans ((heap_setCell_other _ ⟨B1, 1, none⟩ _ _ (by simp; omega)).trans X3.out))
  have yb : Below w.heap.size w ((w6.setCell ⟨B1, 1, none⟩ (.int .u64 q)).setCell ⟨B1, 3, none⟩ (.int .u64 1)) := by
    repeat' (first | (with_reducible exact HB.out) | refine Below.setCell ?_ s1_ _)
  generalize ((w6.setCell ⟨B1, 1, none⟩ (.int .u64 q)).setCell ⟨B1, 3, none⟩ (.int .u64 1)) = w7 at y1 y2 y3 yb ⊢
  clear HB X1 X2 X3 a0_ a1_ a2_ e0_ e1_ e2_ e3_ e4_ k0_ k1_ k2_ k3_ k4_ o0_ o1_ o2_ o3_ o4_ q0_ q1_ q2_ q3_ q4_
  have HB := Lib.hid yb
  have X1 := Lib.hid y1; have X2 := Lib.hid y2; have X3 := Lib.hid y3
  clear yb y1 y2 y3
  obtain ⟨a0_, a1_, a2_⟩ := cf_at X1.out
  obtain ⟨e0_, e1_, e2_, e3_, e4_, k0_, k1_, k2_, k3_, k4_⟩ := cs_at X2.out
  obtain ⟨o0_, o1_, o2_, o3_, o4_, q0_, q1_, q2_, q3_, q4_⟩ := cs_at X3.out
  go_wp2
  (try simp only [Exit.inBlock, Exit.then])
  have y3 := five_put X3.out (.int .u64 f) (.int .u64 q) (.int .u64 1) (.int .u64 1) (.bool true)
  have yb : Below w.heap.size w (((((w7.setCell ⟨B2, 0, none⟩ (.int .u64 f)).setCell ⟨B2, 1, none⟩ (.int .u64 q)).setCell ⟨B2, 2, none⟩ (.int .u64 1)).setCell ⟨B2, 3, none⟩ (.int .u64 1)).setCell ⟨B2, 4, none⟩ (.bool true)) := by
    repeat' (first | (with_reducible exact HB.out) | refine Below.setCell ?_ s2_ _)
  clear a0_ a1_ a2_ e0_ e1_ e2_ e3_ e4_ k0_ k1_ k2_ k3_ k4_ o0_ o1_ o2_ o3_ o4_ q0_ q1_ q2_ q3_ q4_
  generalize (((((w7.setCell ⟨B2, 0, none⟩ (.int .u64 f)).setCell ⟨B2, 1, none⟩ (.int .u64 q)).setCell ⟨B2, 2, none⟩ (.int .u64 1)).setCell ⟨B2, 3, none⟩ (.int .u64 1)).setCell ⟨B2, 4, none⟩ (.bool true)) = w99 at y3 yb ⊢
  obtain ⟨o0_, o1_, o2_, o3_, o4_, -⟩ := cs_at y3
  refine bodyPost_ret (v := .tuple #[.agg #[.int .u64 f, .int .u64 q, .int .u64 1, .int .u64 1, .bool true], .bool true]) (by simp [results, Try.results46, go_sem, o0_, o1_, o2_, o3_, o4_]) rfl ⟨rfl, yb⟩
set_option maxRecDepth 100000 in
set_option maxHeartbeats 4000000 in
theorem rst_beg2 (tg iv mt : Int) (t0 : 0 ≤ tg) (v0 : 0 ≤ iv) (v1 : iv ≤ 18446744073709551615) (m0 : 0 ≤ mt) (f n c l : Int) (f0 : 0 ≤ f) (f1 : f ≤ 18446744073709551615) (g0 : 0 ≤ n) (g1 : n ≤ 18446744073709551615) (c0 : 0 ≤ c) (c1 : c ≤ 18446744073709551615) (l0 : 0 ≤ l) (l1 : l ≤ 18446744073709551615) (now wa be : Int) (n0 : 0 ≤ now) (n1 : now ≤ 18446744073709551615) (a0 : 0 ≤ wa) (b0 : 0 ≤ be) (w : World) (hok : cok iv = true) (ht : tg ≤ wa) (hm : mt < be) (hf : ¬ f = 0) (hn : f ≤ now) (hs : ¬ sub0 c l ≤ 1) (ht2 : 16 * iv ≤ sub0 now n) :
    Calls Try.prog 46 #[.agg #[.int .u64 tg, .int .u64 iv, .int .u64 mt], .agg #[.int .u64 f, .int .u64 n, .int .u64 c, .int .u64 l, .bool false], .int .u64 now, .int .u64 wa, .int .u64 be] w fun e w' => e = .returned (.tuple #[.agg #[.int .u64 f, .int .u64 (cap (now + prt iv (beg1 iv n c l now))), .int .u64 (beg1 iv n c l now), .int .u64 (beg1 iv n c l now), .bool true], .bool true]) ∧ Below w.heap.size w w' := by
  have CK := Lib.hid (fun W => cod_may tg iv mt v0 W)
  rw [hok] at CK
  obtain ⟨j0, j1⟩ := cok_iff.1 hok
  clear hok
  have x1_ : decide (tg ≤ wa) = true := decide_eq_true ht
  have x2_ : decide (mt < be) = true := decide_eq_true hm
  have y1_ : (f == 0) = false := by simp [hf]
  have y2_ : (f != 0) = true := by simp [hf]
  have z1_ : decide (f ≤ now) = true := decide_eq_true hn
  have SB := Lib.hid (fun W => sub_ref c l c0 c1 l0 l1 W)
  have SX := Lib.hid (fun W => (sub_ref now n n0 n1 g0 g1 W).mono (R' := fun e w' => e = .returned (.int .u64 (sub0 now n)) ∧ w' = W) (by rintro e w' ⟨rfl, rfl⟩; exact ⟨rfl, rfl⟩))
  have w16 : IntKind.u64.wrap (16 * iv) = 16 * iv := by rw [IntKind.wrap_u64]; omega
  obtain ⟨s0, s1⟩ := sub0_bd (a := c) (b := l) c0 c1 l0
  obtain ⟨tt0, tt1⟩ := sub0_bd (a := now) (b := n) n0 n1 g0
  have hb : beg1 iv n c l now = 1 := by unfold beg1; rw [if_pos (Or.inr ht2)]
  rw [hb]
  clear hb
  generalize sub0 c l = s at *
  generalize sub0 now n = t at *
  have gg1 : decide (1 < s) = true := decide_eq_true (by omega)
  have gg2 : decide (t < 16 * iv) = false := decide_eq_false (by omega)
  have PT := Lib.hid (fun W => part_ref iv 1 v0 v1 (by omega) (by omega) W)
  obtain ⟨px0, px1⟩ := prt_bd iv 1 v0 j1 (by omega)
  generalize prt iv 1 = p at *
  have AE := Lib.hid (fun W => add_ref now p n0 n1 px0 (by omega) W)
  generalize cap (now + p) = q at *
  go_enter Try.func46, Try.ntmps46
  go_wp2_with fail
  refine (CK.out _).mono ?_
  rintro e w' ⟨rfl, rfl⟩
  have hx := three_at (Below.refl (((((w.alloc (.cells #[.int .u64 tg, .int .u64 iv, .int .u64 mt] 71)).alloc (.cells #[.int .u64 f, .int .u64 n, .int .u64 c, .int .u64 l, .bool false] 73)).alloc (.cells #[.int .u64 0, .int .u64 0, .int .u64 0, .int .u64 0, .bool false] 73)).alloc (.cells #[.int .u64 tg, .int .u64 iv, .int .u64 mt] 71)).heap.size) ((((w.alloc (.cells #[.int .u64 tg, .int .u64 iv, .int .u64 mt] 71)).alloc (.cells #[.int .u64 f, .int .u64 n, .int .u64 c, .int .u64 l, .bool false] 73)).alloc (.cells #[.int .u64 0, .int .u64 0, .int .u64 0, .int .u64 0, .bool false] 73)).alloc (.cells #[.int .u64 tg, .int .u64 iv, .int .u64 mt] 71)))
  have yb : Below w.heap.size w ((((w.alloc (.cells #[.int .u64 tg, .int .u64 iv, .int .u64 mt] 71)).alloc (.cells #[.int .u64 f, .int .u64 n, .int .u64 c, .int .u64 l, .bool false] 73)).alloc (.cells #[.int .u64 0, .int .u64 0, .int .u64 0, .int .u64 0, .bool false] 73)).alloc (.cells #[.int .u64 tg, .int .u64 iv, .int .u64 mt] 71)) := by
    repeat' (first | exact Below.refl _ _ | refine Below.alloc ?_ (by simp; try omega) _)
  generalize ((((w.alloc (.cells #[.int .u64 tg, .int .u64 iv, .int .u64 mt] 71)).alloc (.cells #[.int .u64 f, .int .u64 n, .int .u64 c, .int .u64 l, .bool false] 73)).alloc (.cells #[.int .u64 0, .int .u64 0, .int .u64 0, .int .u64 0, .bool false] 73)).alloc (.cells #[.int .u64 tg, .int .u64 iv, .int .u64 mt] 71)) = w1 at hx yb ⊢
  obtain ⟨x1, x2, x3⟩ := hx
  obtain ⟨B2, hB2⟩ : ∃ B2, B2 = w.heap.size + 1 + 1 := ⟨_, rfl⟩
  obtain ⟨B1, hB1⟩ : ∃ B1, B1 = w.heap.size + 1 := ⟨_, rfl⟩
  rw [← hB2] at x3 ⊢
  rw [← hB1] at x2 ⊢
  have n12 : ¬ B1 = B2 := by omega
  have n21 : ¬ B2 = B1 := by omega
  have n01 : ¬ w.heap.size = B1 := by omega
  have n02 : ¬ w.heap.size = B2 := by omega
  have n10 : ¬ B1 = w.heap.size := by omega
  have n20 : ¬ B2 = w.heap.size := by omega
  have s1_ : w.heap.size ≤ B1 := by omega
  have s2_ : w.heap.size ≤ B2 := by omega
  clear hB1 hB2
  have HB := Lib.hid yb
  have X1 := Lib.hid x1; have X2 := Lib.hid x2; have X3 := Lib.hid x3
  clear yb x1 x2 x3
  obtain ⟨a0_, a1_, a2_⟩ := cf_at X1.out
  obtain ⟨e0_, e1_, e2_, e3_, e4_, k0_, k1_, k2_, k3_, k4_⟩ := cs_at X2.out
  obtain ⟨o0_, o1_, o2_, o3_, o4_, q0_, q1_, q2_, q3_, q4_⟩ := cs_at X3.out
  go_upto_region 21 with (fail)
  have y1 : (w1.setCell ⟨B1, 4, none⟩ (.bool true)).heap[w.heap.size]? = _ := ((heap_setCell_other _ ⟨B1, 4, none⟩ _ _ (by simp; omega)).trans X1.out)
  have y2 : (w1.setCell ⟨B1, 4, none⟩ (.bool true)).heap[B1]? = some (.cells #[.int .u64 f, .int .u64 n, .int .u64 c, .int .u64 l, .bool true] 73 (0, 0)) := by simpa using (heap_put X2.out 4 (.bool true))
  have y3 : (w1.setCell ⟨B1, 4, none⟩ (.bool true)).heap[B2]? = _ := ((heap_setCell_other _ ⟨B1, 4, none⟩ _ _ (by simp; omega)).trans X3.out)
  have yb : Below w.heap.size w (w1.setCell ⟨B1, 4, none⟩ (.bool true)) := by
    repeat' (first | (with_reducible exact HB.out) | refine Below.setCell ?_ s1_ _)
  generalize (w1.setCell ⟨B1, 4, none⟩ (.bool true)) = w2 at y1 y2 y3 yb ⊢
  clear HB X1 X2 X3 a0_ a1_ a2_ e0_ e1_ e2_ e3_ e4_ k0_ k1_ k2_ k3_ k4_ o0_ o1_ o2_ o3_ o4_ q0_ q1_ q2_ q3_ q4_
  have HB := Lib.hid yb
  have X1 := Lib.hid y1; have X2 := Lib.hid y2; have X3 := Lib.hid y3
  clear yb y1 y2 y3
  obtain ⟨a0_, a1_, a2_⟩ := cf_at X1.out
  obtain ⟨e0_, e1_, e2_, e3_, e4_, k0_, k1_, k2_, k3_, k4_⟩ := cs_at X2.out
  obtain ⟨o0_, o1_, o2_, o3_, o4_, q0_, q1_, q2_, q3_, q4_⟩ := cs_at X3.out
  go_wp2_with fail
  refine (SB.out _).mono ?_
  rintro e w' ⟨rfl, rfl⟩
  go_wp2
  go_quiet ((go_at_call 92; exact Calls.quiet_of_same (SX.out _)))
  have b : Below w2.heap.size w2 (w2.drewN nq) := below_drewN _ (Below.refl _ _)
  generalize (w2.drewN nq) = w3 at b ⊢
  have yb := below_onto HB.out b HB.out.size
  have y1 := (b.block _ (Array.getElem?_eq_some_iff.1 X1.out).1).trans X1.out
  have y2 := (b.block _ (Array.getElem?_eq_some_iff.1 X2.out).1).trans X2.out
  have y3 := (b.block _ (Array.getElem?_eq_some_iff.1 X3.out).1).trans X3.out
  clear HB X1 X2 X3 b a0_ a1_ a2_ e0_ e1_ e2_ e3_ e4_ k0_ k1_ k2_ k3_ k4_ o0_ o1_ o2_ o3_ o4_ q0_ q1_ q2_ q3_ q4_
  have HB := Lib.hid yb
  have X1 := Lib.hid y1; have X2 := Lib.hid y2; have X3 := Lib.hid y3
  clear yb y1 y2 y3
  obtain ⟨a0_, a1_, a2_⟩ := cf_at X1.out
  obtain ⟨e0_, e1_, e2_, e3_, e4_, k0_, k1_, k2_, k3_, k4_⟩ := cs_at X2.out
  obtain ⟨o0_, o1_, o2_, o3_, o4_, q0_, q1_, q2_, q3_, q4_⟩ := cs_at X3.out
  go_upto_region 25 with (fail)
  have y1 : (w3.setCell ⟨B1, 2, none⟩ (.int .u64 1)).heap[w.heap.size]? = _ := ((heap_setCell_other _ ⟨B1, 2, none⟩ _ _ (by simp; omega)).trans X1.out)
  have y2 : (w3.setCell ⟨B1, 2, none⟩ (.int .u64 1)).heap[B1]? = some (.cells #[.int .u64 f, .int .u64 n, .int .u64 1, .int .u64 l, .bool true] 73 (0, 0)) := by simpa using (heap_put X2.out 2 (.int .u64 1))
  have y3 : (w3.setCell ⟨B1, 2, none⟩ (.int .u64 1)).heap[B2]? = _ := ((heap_setCell_other _ ⟨B1, 2, none⟩ _ _ (by simp; omega)).trans X3.out)
  have yb : Below w.heap.size w (w3.setCell ⟨B1, 2, none⟩ (.int .u64 1)) := by
    repeat' (first | (with_reducible exact HB.out) | refine Below.setCell ?_ s1_ _)
  generalize (w3.setCell ⟨B1, 2, none⟩ (.int .u64 1)) = w4 at y1 y2 y3 yb ⊢
  clear HB X1 X2 X3 a0_ a1_ a2_ e0_ e1_ e2_ e3_ e4_ k0_ k1_ k2_ k3_ k4_ o0_ o1_ o2_ o3_ o4_ q0_ q1_ q2_ q3_ q4_
  have HB := Lib.hid yb
  have X1 := Lib.hid y1; have X2 := Lib.hid y2; have X3 := Lib.hid y3
  clear yb y1 y2 y3
  obtain ⟨a0_, a1_, a2_⟩ := cf_at X1.out
  obtain ⟨e0_, e1_, e2_, e3_, e4_, k0_, k1_, k2_, k3_, k4_⟩ := cs_at X2.out
  obtain ⟨o0_, o1_, o2_, o3_, o4_, q0_, q1_, q2_, q3_, q4_⟩ := cs_at X3.out
  go_wp2_with fail
  refine (PT.out _).mono ?_
  rintro e w5 ⟨rfl, b⟩
  have yb := below_onto HB.out b HB.out.size
  have y1 := (b.block _ (Array.getElem?_eq_some_iff.1 X1.out).1).trans X1.out
  have y2 := (b.block _ (Array.getElem?_eq_some_iff.1 X2.out).1).trans X2.out
  have y3 := (b.block _ (Array.getElem?_eq_some_iff.1 X3.out).1).trans X3.out
  clear HB X1 X2 X3 b a0_ a1_ a2_ e0_ e1_ e2_ e3_ e4_ k0_ k1_ k2_ k3_ k4_ o0_ o1_ o2_ o3_ o4_ q0_ q1_ q2_ q3_ q4_
  have HB := Lib.hid yb
  have X1 := Lib.hid y1; have X2 := Lib.hid y2; have X3 := Lib.hid y3
  clear yb y1 y2 y3
  obtain ⟨a0_, a1_, a2_⟩ := cf_at X1.out
  obtain ⟨e0_, e1_, e2_, e3_, e4_, k0_, k1_, k2_, k3_, k4_⟩ := cs_at X2.out
  obtain ⟨o0_, o1_, o2_, o3_, o4_, q0_, q1_, q2_, q3_, q4_⟩ := cs_at X3.out
  go_wp2_with fail
  refine (AE.out _).mono ?_
  rintro e w6 ⟨rfl, b⟩
  have yb := below_onto HB.out b HB.out.size
  have y1 := (b.block _ (Array.getElem?_eq_some_iff.1 X1.out).1).trans X1.out
  have y2 := (b.block _ (Array.getElem?_eq_some_iff.1 X2.out).1).trans X2.out
  have y3 := (b.block _ (Array.getElem?_eq_some_iff.1 X3.out).1).trans X3.out
  clear HB X1 X2 X3 b a0_ a1_ a2_ e0_ e1_ e2_ e3_ e4_ k0_ k1_ k2_ k3_ k4_ o0_ o1_ o2_ o3_ o4_ q0_ q1_ q2_ q3_ q4_
  have HB := Lib.hid yb
  have X1 := Lib.hid y1; have X2 := Lib.hid y2; have X3 := Lib.hid y3
  clear yb y1 y2 y3
  obtain ⟨a0_, a1_, a2_⟩ := cf_at X1.out
  obtain ⟨e0_, e1_, e2_, e3_, e4_, k0_, k1_, k2_, k3_, k4_⟩ := cs_at X2.out
  obtain ⟨o0_, o1_, o2_, o3_, o4_, q0_, q1_, q2_, q3_, q4_⟩ := cs_at X3.out
  go_upto_region 27 with (fail)
  have y1 : ((w6.setCell ⟨B1, 1, none⟩ (.int .u64 q)).setCell ⟨B1, 3, none⟩ (.int .u64 1)).heap[w.heap.size]? = _ := ((heap_setCell_other _ ⟨B1, 3, none⟩ _ _ (by simp; omega)).trans ((heap_setCell_other _ ⟨B1, 1, none⟩ _ _ (by simp; omega)).trans X1.out))
  have y2 : ((w6.setCell ⟨B1, 1, none⟩ (.int .u64 q)).setCell ⟨B1, 3, none⟩ (.int .u64 1)).heap[B1]? = some (.cells #[.int .u64 f, .int .u64 q, .int .u64 1, .int .u64 1, .bool true] 73 (0, 0)) := by simpa using (heap_put (heap_put X2.out 1 (.int .u64 q)) 3 (.int .u64 1))
  have y3 : ((w6.setCell ⟨B1, 1, none⟩ (.int .u64 q)).setCell ⟨B1, 3, none⟩ (.int .u64 1)).heap[B2]? = _ := ((heap_setCell_other _ ⟨B1, 3, none⟩ _ _ (by simp; omega)).trans ((heap_setCell_other _ ⟨B1, 1, none⟩ _ _ (by simp; omega)).trans X3.out))
  have yb : Below w.heap.size w ((w6.setCell ⟨B1, 1, none⟩ (.int .u64 q)).setCell ⟨B1, 3, none⟩ (.int .u64 1)) := by
    repeat' (first | (with_reducible exact HB.out) | refine Below.setCell ?_ s1_ _)
  generalize ((w6.setCell ⟨B1, 1, none⟩ (.int .u64 q)).setCell ⟨B1, 3, none⟩ (.int .u64 1)) = w7 at y1 y2 y3 yb ⊢
  clear HB X1 X2 X3 a0_ a1_ a2_ e0_ e1_ e2_ e3_ e4_ k0_ k1_ k2_ k3_ k4_ o0_ o1_ o2_ o3_ o4_ q0_ q1_ q2_ q3_ q4_
  have HB := Lib.hid yb
  have X1 := Lib.hid y1; have X2 := Lib.hid y2; have X3 := Lib.hid y3
  clear yb y1 y2 y3
  obtain ⟨a0_, a1_, a2_⟩ := cf_at X1.out
  obtain ⟨e0_, e1_, e2_, e3_, e4_, k0_, k1_, k2_, k3_, k4_⟩ := cs_at X2.out
  obtain ⟨o0_, o1_, o2_, o3_, o4_, q0_, q1_, q2_, q3_, q4_⟩ := cs_at X3.out
  go_wp2
  (try simp only [Exit.inBlock, Exit.then])
  have y3 := five_put X3.out (.int .u64 f) (.int .u64 q) (.int .u64 1) (.int .u64 1) (.bool true)
  have yb : Below w.heap.size w (((((w7.setCell ⟨B2, 0, none⟩ (.int .u64 f)).setCell ⟨B2, 1, none⟩ (.int .u64 q)).setCell ⟨B2, 2, none⟩ (.int .u64 1)).setCell ⟨B2, 3, none⟩ (.int .u64 1)).setCell ⟨B2, 4, none⟩ (.bool true)) := by
    repeat' (first | (with_reducible exact HB.out) | refine Below.setCell ?_ s2_ _)
  clear a0_ a1_ a2_ e0_ e1_ e2_ e3_ e4_ k0_ k1_ k2_ k3_ k4_ o0_ o1_ o2_ o3_ o4_ q0_ q1_ q2_ q3_ q4_
  generalize (((((w7.setCell ⟨B2, 0, none⟩ (.int .u64 f)).setCell ⟨B2, 1, none⟩ (.int .u64 q)).setCell ⟨B2, 2, none⟩ (.int .u64 1)).setCell ⟨B2, 3, none⟩ (.int .u64 1)).setCell ⟨B2, 4, none⟩ (.bool true)) = w99 at y3 yb ⊢
  obtain ⟨o0_, o1_, o2_, o3_, o4_, -⟩ := cs_at y3
  refine bodyPost_ret (v := .tuple #[.agg #[.int .u64 f, .int .u64 q, .int .u64 1, .int .u64 1, .bool true], .bool true]) (by simp [results, Try.results46, go_sem, o0_, o1_, o2_, o3_, o4_]) rfl ⟨rfl, yb⟩
set_option maxRecDepth 100000 in
set_option maxHeartbeats 4000000 in
theorem rst_beg3 (tg iv mt : Int) (t0 : 0 ≤ tg) (v0 : 0 ≤ iv) (v1 : iv ≤ 18446744073709551615) (m0 : 0 ≤ mt) (f n c l : Int) (f0 : 0 ≤ f) (f1 : f ≤ 18446744073709551615) (g0 : 0 ≤ n) (g1 : n ≤ 18446744073709551615) (c0 : 0 ≤ c) (c1 : c ≤ 18446744073709551615) (l0 : 0 ≤ l) (l1 : l ≤ 18446744073709551615) (now wa be : Int) (n0 : 0 ≤ now) (n1 : now ≤ 18446744073709551615) (a0 : 0 ≤ wa) (b0 : 0 ≤ be) (w : World) (hok : cok iv = true) (ht : tg ≤ wa) (hm : mt < be) (hf : ¬ f = 0) (hn : f ≤ now) (hs : ¬ sub0 c l ≤ 1) (ht2 : ¬ 16 * iv ≤ sub0 now n) :
    Calls Try.prog 46 #[.agg #[.int .u64 tg, .int .u64 iv, .int .u64 mt], .agg #[.int .u64 f, .int .u64 n, .int .u64 c, .int .u64 l, .bool false], .int .u64 now, .int .u64 wa, .int .u64 be] w fun e w' => e = .returned (.tuple #[.agg #[.int .u64 f, .int .u64 (cap (now + prt iv (beg1 iv n c l now))), .int .u64 (beg1 iv n c l now), .int .u64 (beg1 iv n c l now), .bool true], .bool true]) ∧ Below w.heap.size w w' := by
  have CK := Lib.hid (fun W => cod_may tg iv mt v0 W)
  rw [hok] at CK
  obtain ⟨j0, j1⟩ := cok_iff.1 hok
  clear hok
  have x1_ : decide (tg ≤ wa) = true := decide_eq_true ht
  have x2_ : decide (mt < be) = true := decide_eq_true hm
  have y1_ : (f == 0) = false := by simp [hf]
  have y2_ : (f != 0) = true := by simp [hf]
  have z1_ : decide (f ≤ now) = true := decide_eq_true hn
  have SB := Lib.hid (fun W => sub_ref c l c0 c1 l0 l1 W)
  have SX := Lib.hid (fun W => (sub_ref now n n0 n1 g0 g1 W).mono (R' := fun e w' => e = .returned (.int .u64 (sub0 now n)) ∧ w' = W) (by rintro e w' ⟨rfl, rfl⟩; exact ⟨rfl, rfl⟩))
  have w16 : IntKind.u64.wrap (16 * iv) = 16 * iv := by rw [IntKind.wrap_u64]; omega
  obtain ⟨s0, s1⟩ := sub0_bd (a := c) (b := l) c0 c1 l0
  obtain ⟨tt0, tt1⟩ := sub0_bd (a := now) (b := n) n0 n1 g0
  have hb : beg1 iv n c l now = sub0 c l := by unfold beg1; rw [if_neg (by omega)]
  rw [hb]
  clear hb
  generalize sub0 c l = s at *
  generalize sub0 now n = t at *
  have gg1 : decide (1 < s) = true := decide_eq_true (by omega)
  have gg2 : decide (t < 16 * iv) = true := decide_eq_true (by omega)
  have PT := Lib.hid (fun W => part_ref iv s v0 v1 (by omega) (by omega) W)
  obtain ⟨px0, px1⟩ := prt_bd iv s v0 j1 (by omega)
  generalize prt iv s = p at *
  have AE := Lib.hid (fun W => add_ref now p n0 n1 px0 (by omega) W)
  generalize cap (now + p) = q at *
  go_enter Try.func46, Try.ntmps46
  go_wp2_with fail
  refine (CK.out _).mono ?_
  rintro e w' ⟨rfl, rfl⟩
  have hx := three_at (Below.refl (((((w.alloc (.cells #[.int .u64 tg, .int .u64 iv, .int .u64 mt] 71)).alloc (.cells #[.int .u64 f, .int .u64 n, .int .u64 c, .int .u64 l, .bool false] 73)).alloc (.cells #[.int .u64 0, .int .u64 0, .int .u64 0, .int .u64 0, .bool false] 73)).alloc (.cells #[.int .u64 tg, .int .u64 iv, .int .u64 mt] 71)).heap.size) ((((w.alloc (.cells #[.int .u64 tg, .int .u64 iv, .int .u64 mt] 71)).alloc (.cells #[.int .u64 f, .int .u64 n, .int .u64 c, .int .u64 l, .bool false] 73)).alloc (.cells #[.int .u64 0, .int .u64 0, .int .u64 0, .int .u64 0, .bool false] 73)).alloc (.cells #[.int .u64 tg, .int .u64 iv, .int .u64 mt] 71)))
  have yb : Below w.heap.size w ((((w.alloc (.cells #[.int .u64 tg, .int .u64 iv, .int .u64 mt] 71)).alloc (.cells #[.int .u64 f, .int .u64 n, .int .u64 c, .int .u64 l, .bool false] 73)).alloc (.cells #[.int .u64 0, .int .u64 0, .int .u64 0, .int .u64 0, .bool false] 73)).alloc (.cells #[.int .u64 tg, .int .u64 iv, .int .u64 mt] 71)) := by
    repeat' (first | exact Below.refl _ _ | refine Below.alloc ?_ (by simp; try omega) _)
  generalize ((((w.alloc (.cells #[.int .u64 tg, .int .u64 iv, .int .u64 mt] 71)).alloc (.cells #[.int .u64 f, .int .u64 n, .int .u64 c, .int .u64 l, .bool false] 73)).alloc (.cells #[.int .u64 0, .int .u64 0, .int .u64 0, .int .u64 0, .bool false] 73)).alloc (.cells #[.int .u64 tg, .int .u64 iv, .int .u64 mt] 71)) = w1 at hx yb ⊢
  obtain ⟨x1, x2, x3⟩ := hx
  obtain ⟨B2, hB2⟩ : ∃ B2, B2 = w.heap.size + 1 + 1 := ⟨_, rfl⟩
  obtain ⟨B1, hB1⟩ : ∃ B1, B1 = w.heap.size + 1 := ⟨_, rfl⟩
  rw [← hB2] at x3 ⊢
  rw [← hB1] at x2 ⊢
  have n12 : ¬ B1 = B2 := by omega
  have n21 : ¬ B2 = B1 := by omega
  have n01 : ¬ w.heap.size = B1 := by omega
  have n02 : ¬ w.heap.size = B2 := by omega
  have n10 : ¬ B1 = w.heap.size := by omega
  have n20 : ¬ B2 = w.heap.size := by omega
  have s1_ : w.heap.size ≤ B1 := by omega
  have s2_ : w.heap.size ≤ B2 := by omega
  clear hB1 hB2
  have HB := Lib.hid yb
  have X1 := Lib.hid x1; have X2 := Lib.hid x2; have X3 := Lib.hid x3
  clear yb x1 x2 x3
  obtain ⟨a0_, a1_, a2_⟩ := cf_at X1.out
  obtain ⟨e0_, e1_, e2_, e3_, e4_, k0_, k1_, k2_, k3_, k4_⟩ := cs_at X2.out
  obtain ⟨o0_, o1_, o2_, o3_, o4_, q0_, q1_, q2_, q3_, q4_⟩ := cs_at X3.out
  go_upto_region 21 with (fail)
  have y1 : (w1.setCell ⟨B1, 4, none⟩ (.bool true)).heap[w.heap.size]? = _ := ((heap_setCell_other _ ⟨B1, 4, none⟩ _ _ (by simp; omega)).trans X1.out)
  have y2 : (w1.setCell ⟨B1, 4, none⟩ (.bool true)).heap[B1]? = some (.cells #[.int .u64 f, .int .u64 n, .int .u64 c, .int .u64 l, .bool true] 73 (0, 0)) := by simpa using (heap_put X2.out 4 (.bool true))
  have y3 : (w1.setCell ⟨B1, 4, none⟩ (.bool true)).heap[B2]? = _ := ((heap_setCell_other _ ⟨B1, 4, none⟩ _ _ (by simp; omega)).trans X3.out)
  have yb : Below w.heap.size w (w1.setCell ⟨B1, 4, none⟩ (.bool true)) := by
    repeat' (first | (with_reducible exact HB.out) | refine Below.setCell ?_ s1_ _)
  generalize (w1.setCell ⟨B1, 4, none⟩ (.bool true)) = w2 at y1 y2 y3 yb ⊢
  clear HB X1 X2 X3 a0_ a1_ a2_ e0_ e1_ e2_ e3_ e4_ k0_ k1_ k2_ k3_ k4_ o0_ o1_ o2_ o3_ o4_ q0_ q1_ q2_ q3_ q4_
  have HB := Lib.hid yb
  have X1 := Lib.hid y1; have X2 := Lib.hid y2; have X3 := Lib.hid y3
  clear yb y1 y2 y3
  obtain ⟨a0_, a1_, a2_⟩ := cf_at X1.out
  obtain ⟨e0_, e1_, e2_, e3_, e4_, k0_, k1_, k2_, k3_, k4_⟩ := cs_at X2.out
  obtain ⟨o0_, o1_, o2_, o3_, o4_, q0_, q1_, q2_, q3_, q4_⟩ := cs_at X3.out
  go_wp2_with fail
  refine (SB.out _).mono ?_
  rintro e w' ⟨rfl, rfl⟩
  go_wp2
  go_quiet ((go_at_call 92; exact Calls.quiet_of_same (SX.out _)))
  have b : Below w2.heap.size w2 (w2.drewN nq) := below_drewN _ (Below.refl _ _)
  generalize (w2.drewN nq) = w3 at b ⊢
  have yb := below_onto HB.out b HB.out.size
  have y1 := (b.block _ (Array.getElem?_eq_some_iff.1 X1.out).1).trans X1.out
  have y2 := (b.block _ (Array.getElem?_eq_some_iff.1 X2.out).1).trans X2.out
  have y3 := (b.block _ (Array.getElem?_eq_some_iff.1 X3.out).1).trans X3.out
  clear HB X1 X2 X3 b a0_ a1_ a2_ e0_ e1_ e2_ e3_ e4_ k0_ k1_ k2_ k3_ k4_ o0_ o1_ o2_ o3_ o4_ q0_ q1_ q2_ q3_ q4_
  have HB := Lib.hid yb
  have X1 := Lib.hid y1; have X2 := Lib.hid y2; have X3 := Lib.hid y3
  clear yb y1 y2 y3
  obtain ⟨a0_, a1_, a2_⟩ := cf_at X1.out
  obtain ⟨e0_, e1_, e2_, e3_, e4_, k0_, k1_, k2_, k3_, k4_⟩ := cs_at X2.out
  obtain ⟨o0_, o1_, o2_, o3_, o4_, q0_, q1_, q2_, q3_, q4_⟩ := cs_at X3.out
  go_upto_region 25 with (fail)
  have y1 : (w3.setCell ⟨B1, 2, none⟩ (.int .u64 s)).heap[w.heap.size]? = _ := ((heap_setCell_other _ ⟨B1, 2, none⟩ _ _ (by simp; omega)).trans X1.out)
  have y2 : (w3.setCell ⟨B1, 2, none⟩ (.int .u64 s)).heap[B1]? = some (.cells #[.int .u64 f, .int .u64 n, .int .u64 s, .int .u64 l, .bool true] 73 (0, 0)) := by simpa using (heap_put X2.out 2 (.int .u64 s))
  have y3 : (w3.setCell ⟨B1, 2, none⟩ (.int .u64 s)).heap[B2]? = _ := ((heap_setCell_other _ ⟨B1, 2, none⟩ _ _ (by simp; omega)).trans X3.out)
  have yb : Below w.heap.size w (w3.setCell ⟨B1, 2, none⟩ (.int .u64 s)) := by
    repeat' (first | (with_reducible exact HB.out) | refine Below.setCell ?_ s1_ _)
  generalize (w3.setCell ⟨B1, 2, none⟩ (.int .u64 s)) = w4 at y1 y2 y3 yb ⊢
  clear HB X1 X2 X3 a0_ a1_ a2_ e0_ e1_ e2_ e3_ e4_ k0_ k1_ k2_ k3_ k4_ o0_ o1_ o2_ o3_ o4_ q0_ q1_ q2_ q3_ q4_
  have HB := Lib.hid yb
  have X1 := Lib.hid y1; have X2 := Lib.hid y2; have X3 := Lib.hid y3
  clear yb y1 y2 y3
  obtain ⟨a0_, a1_, a2_⟩ := cf_at X1.out
  obtain ⟨e0_, e1_, e2_, e3_, e4_, k0_, k1_, k2_, k3_, k4_⟩ := cs_at X2.out
  obtain ⟨o0_, o1_, o2_, o3_, o4_, q0_, q1_, q2_, q3_, q4_⟩ := cs_at X3.out
  go_wp2_with fail
  refine (PT.out _).mono ?_
  rintro e w5 ⟨rfl, b⟩
  have yb := below_onto HB.out b HB.out.size
  have y1 := (b.block _ (Array.getElem?_eq_some_iff.1 X1.out).1).trans X1.out
  have y2 := (b.block _ (Array.getElem?_eq_some_iff.1 X2.out).1).trans X2.out
  have y3 := (b.block _ (Array.getElem?_eq_some_iff.1 X3.out).1).trans X3.out
  clear HB X1 X2 X3 b a0_ a1_ a2_ e0_ e1_ e2_ e3_ e4_ k0_ k1_ k2_ k3_ k4_ o0_ o1_ o2_ o3_ o4_ q0_ q1_ q2_ q3_ q4_
  have HB := Lib.hid yb
  have X1 := Lib.hid y1; have X2 := Lib.hid y2; have X3 := Lib.hid y3
  clear yb y1 y2 y3
  obtain ⟨a0_, a1_, a2_⟩ := cf_at X1.out
  obtain ⟨e0_, e1_, e2_, e3_, e4_, k0_, k1_, k2_, k3_, k4_⟩ := cs_at X2.out
  obtain ⟨o0_, o1_, o2_, o3_, o4_, q0_, q1_, q2_, q3_, q4_⟩ := cs_at X3.out
  go_wp2_with fail
  refine (AE.out _).mono ?_
  rintro e w6 ⟨rfl, b⟩
  have yb := below_onto HB.out b HB.out.size
  have y1 := (b.block _ (Array.getElem?_eq_some_iff.1 X1.out).1).trans X1.out
  have y2 := (b.block _ (Array.getElem?_eq_some_iff.1 X2.out).1).trans X2.out
  have y3 := (b.block _ (Array.getElem?_eq_some_iff.1 X3.out).1).trans X3.out
  clear HB X1 X2 X3 b a0_ a1_ a2_ e0_ e1_ e2_ e3_ e4_ k0_ k1_ k2_ k3_ k4_ o0_ o1_ o2_ o3_ o4_ q0_ q1_ q2_ q3_ q4_
  have HB := Lib.hid yb
  have X1 := Lib.hid y1; have X2 := Lib.hid y2; have X3 := Lib.hid y3
  clear yb y1 y2 y3
  obtain ⟨a0_, a1_, a2_⟩ := cf_at X1.out
  obtain ⟨e0_, e1_, e2_, e3_, e4_, k0_, k1_, k2_, k3_, k4_⟩ := cs_at X2.out
  obtain ⟨o0_, o1_, o2_, o3_, o4_, q0_, q1_, q2_, q3_, q4_⟩ := cs_at X3.out
  go_upto_region 27 with (fail)
  have y1 : ((w6.setCell ⟨B1, 1, none⟩ (.int .u64 q)).setCell ⟨B1, 3, none⟩ (.int .u64 s)).heap[w.heap.size]? = _ := ((heap_setCell_other _ ⟨B1, 3, none⟩ _ _ (by simp; omega)).trans ((heap_setCell_other _ ⟨B1, 1, none⟩ _ _ (by simp; omega)).trans X1.out))
  have y2 : ((w6.setCell ⟨B1, 1, none⟩ (.int .u64 q)).setCell ⟨B1, 3, none⟩ (.int .u64 s)).heap[B1]? = some (.cells #[.int .u64 f, .int .u64 q, .int .u64 s, .int .u64 s, .bool true] 73 (0, 0)) := by simpa using (heap_put (heap_put X2.out 1 (.int .u64 q)) 3 (.int .u64 s))
  have y3 : ((w6.setCell ⟨B1, 1, none⟩ (.int .u64 q)).setCell ⟨B1, 3, none⟩ (.int .u64 s)).heap[B2]? = _ := ((heap_setCell_other _ ⟨B1, 3, none⟩ _ _ (by simp; omega)).trans ((heap_setCell_other _ ⟨B1, 1, none⟩ _ _ (by simp; omega)).trans X3.out))
  have yb : Below w.heap.size w ((w6.setCell ⟨B1, 1, none⟩ (.int .u64 q)).setCell ⟨B1, 3, none⟩ (.int .u64 s)) := by
    repeat' (first | (with_reducible exact HB.out) | refine Below.setCell ?_ s1_ _)
  generalize ((w6.setCell ⟨B1, 1, none⟩ (.int .u64 q)).setCell ⟨B1, 3, none⟩ (.int .u64 s)) = w7 at y1 y2 y3 yb ⊢
  clear HB X1 X2 X3 a0_ a1_ a2_ e0_ e1_ e2_ e3_ e4_ k0_ k1_ k2_ k3_ k4_ o0_ o1_ o2_ o3_ o4_ q0_ q1_ q2_ q3_ q4_
  have HB := Lib.hid yb
  have X1 := Lib.hid y1; have X2 := Lib.hid y2; have X3 := Lib.hid y3
  clear yb y1 y2 y3
  obtain ⟨a0_, a1_, a2_⟩ := cf_at X1.out
  obtain ⟨e0_, e1_, e2_, e3_, e4_, k0_, k1_, k2_, k3_, k4_⟩ := cs_at X2.out
  obtain ⟨o0_, o1_, o2_, o3_, o4_, q0_, q1_, q2_, q3_, q4_⟩ := cs_at X3.out
  go_wp2
  (try simp only [Exit.inBlock, Exit.then])
  have y3 := five_put X3.out (.int .u64 f) (.int .u64 q) (.int .u64 s) (.int .u64 s) (.bool true)
  have yb : Below w.heap.size w (((((w7.setCell ⟨B2, 0, none⟩ (.int .u64 f)).setCell ⟨B2, 1, none⟩ (.int .u64 q)).setCell ⟨B2, 2, none⟩ (.int .u64 s)).setCell ⟨B2, 3, none⟩ (.int .u64 s)).setCell ⟨B2, 4, none⟩ (.bool true)) := by
    repeat' (first | (with_reducible exact HB.out) | refine Below.setCell ?_ s2_ _)
  clear a0_ a1_ a2_ e0_ e1_ e2_ e3_ e4_ k0_ k1_ k2_ k3_ k4_ o0_ o1_ o2_ o3_ o4_ q0_ q1_ q2_ q3_ q4_
  generalize (((((w7.setCell ⟨B2, 0, none⟩ (.int .u64 f)).setCell ⟨B2, 1, none⟩ (.int .u64 q)).setCell ⟨B2, 2, none⟩ (.int .u64 s)).setCell ⟨B2, 3, none⟩ (.int .u64 s)).setCell ⟨B2, 4, none⟩ (.bool true)) = w99 at y3 yb ⊢
  obtain ⟨o0_, o1_, o2_, o3_, o4_, -⟩ := cs_at y3
  refine bodyPost_ret (v := .tuple #[.agg #[.int .u64 f, .int .u64 q, .int .u64 s, .int .u64 s, .bool true], .bool true]) (by simp [results, Try.results46, go_sem, o0_, o1_, o2_, o3_, o4_]) rfl ⟨rfl, yb⟩
end Go.Proofs.Ytdokllignldbeaa
