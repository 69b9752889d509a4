/-
  What the document's answer for layer 19's step returns for any configuration, state, times and bytes. No condition but that the numbers are words.
-/
import Derived.Test.YtdokllignldbeaaCod4a
import Derived.Test.YtdokllignldbeaaCod4b
namespace Go.Proofs.Ytdokllignldbeaa
set_option linter.unusedVariables false
set_option linter.unusedSimpArgs false
open Go.ChangeShapes Go.WideShapes Go.ChangeAt Go.RowKit
attribute [local go_sem] alloc_drewN setCell_drewN

set_option maxRecDepth 100000 in
set_option maxHeartbeats 4000000 in
theorem cod_rstep (tg iv mt : Int) (t0 : 0 ≤ tg) (v0 : 0 ≤ iv) (v1 : iv ≤ 18446744073709551615) (m0 : 0 ≤ mt) (s : CS) (hs : s.ok) (now wa be : Int) (n0 : 0 ≤ now) (n1 : now ≤ 18446744073709551615) (a0 : 0 ≤ wa) (b0 : 0 ≤ be) (w : World) :
    Calls Try.prog 46 #[.agg #[.int .u64 tg, .int .u64 iv, .int .u64 mt], s.val, .int .u64 now, .int .u64 wa, .int .u64 be] w fun e w' => e = .returned (.tuple #[(cst tg iv mt s now wa be).1.val, .bool (cst tg iv mt s now wa be).2]) ∧ Below w.heap.size w w' := by
  have CK := Lib.hid (fun W => cod_may tg iv mt v0 W)
  obtain ⟨⟨f0, f1⟩, ⟨g0, g1⟩, ⟨c0, c1⟩, l0, l1⟩ := hs
  obtain ⟨f, n, c, l, d⟩ := s
  unfold CS.val
  dsimp only at f0 f1 g0 g1 c0 c1 l0 l1 ⊢
  unfold cst
  by_cases hok : cok iv = true
  · rw [if_pos hok]
    rw [hok] at CK
    obtain ⟨j0, j1⟩ := cok_iff.1 hok
    dsimp only
    by_cases ht : tg ≤ wa
    · by_cases hm : mt < be
      · have hl : clate tg mt wa be = true := by unfold clate; rw [decide_eq_true ht, decide_eq_true hm]; rfl
        have x1_ : decide (tg ≤ wa) = true := decide_eq_true ht
        have x2_ : decide (mt < be) = true := decide_eq_true hm
        unfold ctime
        rw [hl, Bool.true_and]
        clear hl
        by_cases hf : f = 0
        · have y1_ : (f == 0) = true := by simp [hf]
          have y2_ : (f != 0) = false := by simp [hf]
          rw [y1_, show (!true && decide (f ≤ now)) = false from rfl, if_neg (by decide)]
          dsimp only
          have e1_ : fol1 iv f now true = cap (now + iv) := by unfold fol1; rw [if_pos rfl, if_pos hf]
          rw [e1_]
          have AD := Lib.hid (fun W => add_ref now iv n0 n1 v0 v1 W)
          clear e1_
          generalize cap (now + iv) = r at *
          clear hf
          cases d with
          | false =>
            go_enter Try.func46, Try.ntmps46
            go_wp2_with fail
            refine (CK.out _).mono ?_
            rintro e w' ⟨rfl, rfl⟩
            have hx := three_at (Below.refl (((((w.alloc (.cells #[.int .u64 tg, .int .u64 iv, .int .u64 mt] 71)).alloc (.cells #[.int .u64 f, .int .u64 n, .int .u64 c, .int .u64 l, .bool false] 73)).alloc (.cells #[.int .u64 0, .int .u64 0, .int .u64 0, .int .u64 0, .bool false] 73)).alloc (.cells #[.int .u64 tg, .int .u64 iv, .int .u64 mt] 71)).heap.size) ((((w.alloc (.cells #[.int .u64 tg, .int .u64 iv, .int .u64 mt] 71)).alloc (.cells #[.int .u64 f, .int .u64 n, .int .u64 c, .int .u64 l, .bool false] 73)).alloc (.cells #[.int .u64 0, .int .u64 0, .int .u64 0, .int .u64 0, .bool false] 73)).alloc (.cells #[.int .u64 tg, .int .u64 iv, .int .u64 mt] 71)))
            have yb : Below w.heap.size w ((((w.alloc (.cells #[.int .u64 tg, .int .u64 iv, .int .u64 mt] 71)).alloc (.cells #[.int .u64 f, .int .u64 n, .int .u64 c, .int .u64 l, .bool false] 73)).alloc (.cells #[.int .u64 0, .int .u64 0, .int .u64 0, .int .u64 0, .bool false] 73)).alloc (.cells #[.int .u64 tg, .int .u64 iv, .int .u64 mt] 71)) := by
              repeat' (first | exact Below.refl _ _ | refine Below.alloc ?_ (by simp; try omega) _)
            generalize ((((w.alloc (.cells #[.int .u64 tg, .int .u64 iv, .int .u64 mt] 71)).alloc (.cells #[.int .u64 f, .int .u64 n, .int .u64 c, .int .u64 l, .bool false] 73)).alloc (.cells #[.int .u64 0, .int .u64 0, .int .u64 0, .int .u64 0, .bool false] 73)).alloc (.cells #[.int .u64 tg, .int .u64 iv, .int .u64 mt] 71)) = w1 at hx yb ⊢
            obtain ⟨x1, x2, x3⟩ := hx
            obtain ⟨B2, hB2⟩ : ∃ B2, B2 = w.heap.size + 1 + 1 := ⟨_, rfl⟩
            obtain ⟨B1, hB1⟩ : ∃ B1, B1 = w.heap.size + 1 := ⟨_, rfl⟩
            rw [← hB2] at x3 ⊢
            rw [← hB1] at x2 ⊢
            have n12 : ¬ B1 = B2 := by omega
            have n21 : ¬ B2 = B1 := by omega
            have n01 : ¬ w.heap.size = B1 := by omega
            have n02 : ¬ w.heap.size = B2 := by omega
            have n10 : ¬ B1 = w.heap.size := by omega
            have n20 : ¬ B2 = w.heap.size := by omega
            have s1_ : w.heap.size ≤ B1 := by omega
            have s2_ : w.heap.size ≤ B2 := by omega
            clear hB1 hB2
            have HB := Lib.hid yb
            have X1 := Lib.hid x1; have X2 := Lib.hid x2; have X3 := Lib.hid x3
            clear yb x1 x2 x3
            obtain ⟨a0_, a1_, a2_⟩ := cf_at X1.out
            obtain ⟨e0_, e1_, e2_, e3_, e4_, k0_, k1_, k2_, k3_, k4_⟩ := cs_at X2.out
            obtain ⟨o0_, o1_, o2_, o3_, o4_, q0_, q1_, q2_, q3_, q4_⟩ := cs_at X3.out
            go_wp2_with fail
            refine (AD.out _).mono ?_
            rintro e w2 ⟨rfl, b⟩
            have yb := below_onto HB.out b HB.out.size
            have y1 := (b.block _ (Array.getElem?_eq_some_iff.1 X1.out).1).trans X1.out
            have y2 := (b.block _ (Array.getElem?_eq_some_iff.1 X2.out).1).trans X2.out
            have y3 := (b.block _ (Array.getElem?_eq_some_iff.1 X3.out).1).trans X3.out
            clear HB X1 X2 X3 b a0_ a1_ a2_ e0_ e1_ e2_ e3_ e4_ k0_ k1_ k2_ k3_ k4_ o0_ o1_ o2_ o3_ o4_ q0_ q1_ q2_ q3_ q4_
            have HB := Lib.hid yb
            have X1 := Lib.hid y1; have X2 := Lib.hid y2; have X3 := Lib.hid y3
            clear yb y1 y2 y3
            obtain ⟨a0_, a1_, a2_⟩ := cf_at X1.out
            obtain ⟨e0_, e1_, e2_, e3_, e4_, k0_, k1_, k2_, k3_, k4_⟩ := cs_at X2.out
            obtain ⟨o0_, o1_, o2_, o3_, o4_, q0_, q1_, q2_, q3_, q4_⟩ := cs_at X3.out
            go_upto_region 9 with (fail)
            have y1 : (w2.setCell ⟨B1, 0, none⟩ (.int .u64 r)).heap[w.heap.size]? = _ := ((heap_setCell_other _ ⟨B1, 0, none⟩ _ _ (by simp; omega)).trans X1.out)
            have y2 : (w2.setCell ⟨B1, 0, none⟩ (.int .u64 r)).heap[B1]? = some (.cells #[.int .u64 r, .int .u64 n, .int .u64 c, .int .u64 l, .bool false] 73 (0, 0)) := by simpa using (heap_put X2.out 0 (.int .u64 r))
            have y3 : (w2.setCell ⟨B1, 0, none⟩ (.int .u64 r)).heap[B2]? = _ := ((heap_setCell_other _ ⟨B1, 0, none⟩ _ _ (by simp; omega)).trans X3.out)
            have yb : Below w.heap.size w (w2.setCell ⟨B1, 0, none⟩ (.int .u64 r)) := by
              repeat' (first | (with_reducible exact HB.out) | refine Below.setCell ?_ s1_ _)
            generalize (w2.setCell ⟨B1, 0, none⟩ (.int .u64 r)) = w3 at y1 y2 y3 yb ⊢
            clear HB X1 X2 X3 a0_ a1_ a2_ e0_ e1_ e2_ e3_ e4_ k0_ k1_ k2_ k3_ k4_ o0_ o1_ o2_ o3_ o4_ q0_ q1_ q2_ q3_ q4_
            have HB := Lib.hid yb
            have X1 := Lib.hid y1; have X2 := Lib.hid y2; have X3 := Lib.hid y3
            clear yb y1 y2 y3
            obtain ⟨a0_, a1_, a2_⟩ := cf_at X1.out
            obtain ⟨e0_, e1_, e2_, e3_, e4_, k0_, k1_, k2_, k3_, k4_⟩ := cs_at X2.out
            obtain ⟨o0_, o1_, o2_, o3_, o4_, q0_, q1_, q2_, q3_, q4_⟩ := cs_at X3.out
            go_wp2
            (try simp only [Exit.inBlock, Exit.then])
            have y3 := five_put X3.out (.int .u64 r) (.int .u64 n) (.int .u64 c) (.int .u64 l) (.bool false)
            have yb : Below w.heap.size w (((((w3.setCell ⟨B2, 0, none⟩ (.int .u64 r)).setCell ⟨B2, 1, none⟩ (.int .u64 n)).setCell ⟨B2, 2, none⟩ (.int .u64 c)).setCell ⟨B2, 3, none⟩ (.int .u64 l)).setCell ⟨B2, 4, none⟩ (.bool false)) := by
              repeat' (first | (with_reducible exact HB.out) | refine Below.setCell ?_ s2_ _)
            clear a0_ a1_ a2_ e0_ e1_ e2_ e3_ e4_ k0_ k1_ k2_ k3_ k4_ o0_ o1_ o2_ o3_ o4_ q0_ q1_ q2_ q3_ q4_
            generalize (((((w3.setCell ⟨B2, 0, none⟩ (.int .u64 r)).setCell ⟨B2, 1, none⟩ (.int .u64 n)).setCell ⟨B2, 2, none⟩ (.int .u64 c)).setCell ⟨B2, 3, none⟩ (.int .u64 l)).setCell ⟨B2, 4, none⟩ (.bool false)) = w99 at y3 yb ⊢
            obtain ⟨o0_, o1_, o2_, o3_, o4_, -⟩ := cs_at y3
            refine bodyPost_ret (v := .tuple #[.agg #[.int .u64 r, .int .u64 n, .int .u64 c, .int .u64 l, .bool false], .bool false]) (by simp [results, Try.results46, go_sem, o0_, o1_, o2_, o3_, o4_]) rfl ⟨rfl, yb⟩
          | true =>
            go_enter Try.func46, Try.ntmps46
            go_wp2_with fail
            refine (CK.out _).mono ?_
            rintro e w' ⟨rfl, rfl⟩
            have hx := three_at (Below.refl (((((w.alloc (.cells #[.int .u64 tg, .int .u64 iv, .int .u64 mt] 71)).alloc (.cells #[.int .u64 f, .int .u64 n, .int .u64 c, .int .u64 l, .bool true] 73)).alloc (.cells #[.int .u64 0, .int .u64 0, .int .u64 0, .int .u64 0, .bool false] 73)).alloc (.cells #[.int .u64 tg, .int .u64 iv, .int .u64 mt] 71)).heap.size) ((((w.alloc (.cells #[.int .u64 tg, .int .u64 iv, .int .u64 mt] 71)).alloc (.cells #[.int .u64 f, .int .u64 n, .int .u64 c, .int .u64 l, .bool true] 73)).alloc (.cells #[.int .u64 0, .int .u64 0, .int .u64 0, .int .u64 0, .bool false] 73)).alloc (.cells #[.int .u64 tg, .int .u64 iv, .int .u64 mt] 71)))
            have yb : Below w.heap.size w ((((w.alloc (.cells #[.int .u64 tg, .int .u64 iv, .int .u64 mt] 71)).alloc (.cells #[.int .u64 f, .int .u64 n, .int .u64 c, .int .u64 l, .bool true] 73)).alloc (.cells #[.int .u64 0, .int .u64 0, .int .u64 0, .int .u64 0, .bool false] 73)).alloc (.cells #[.int .u64 tg, .int .u64 iv, .int .u64 mt] 71)) := by
              repeat' (first | exact Below.refl _ _ | refine Below.alloc ?_ (by simp; try omega) _)
            generalize ((((w.alloc (.cells #[.int .u64 tg, .int .u64 iv, .int .u64 mt] 71)).alloc (.cells #[.int .u64 f, .int .u64 n, .int .u64 c, .int .u64 l, .bool true] 73)).alloc (.cells #[.int .u64 0, .int .u64 0, .int .u64 0, .int .u64 0, .bool false] 73)).alloc (.cells #[.int .u64 tg, .int .u64 iv, .int .u64 mt] 71)) = w1 at hx yb ⊢
            obtain ⟨x1, x2, x3⟩ := hx
            obtain ⟨B2, hB2⟩ : ∃ B2, B2 = w.heap.size + 1 + 1 := ⟨_, rfl⟩
            obtain ⟨B1, hB1⟩ : ∃ B1, B1 = w.heap.size + 1 := ⟨_, rfl⟩
            rw [← hB2] at x3 ⊢
            rw [← hB1] at x2 ⊢
            have n12 : ¬ B1 = B2 := by omega
            have n21 : ¬ B2 = B1 := by omega
            have n01 : ¬ w.heap.size = B1 := by omega
            have n02 : ¬ w.heap.size = B2 := by omega
            have n10 : ¬ B1 = w.heap.size := by omega
            have n20 : ¬ B2 = w.heap.size := by omega
            have s1_ : w.heap.size ≤ B1 := by omega
            have s2_ : w.heap.size ≤ B2 := by omega
            clear hB1 hB2
            have HB := Lib.hid yb
            have X1 := Lib.hid x1; have X2 := Lib.hid x2; have X3 := Lib.hid x3
            clear yb x1 x2 x3
            obtain ⟨a0_, a1_, a2_⟩ := cf_at X1.out
            obtain ⟨e0_, e1_, e2_, e3_, e4_, k0_, k1_, k2_, k3_, k4_⟩ := cs_at X2.out
            obtain ⟨o0_, o1_, o2_, o3_, o4_, q0_, q1_, q2_, q3_, q4_⟩ := cs_at X3.out
            go_wp2_with fail
            refine (AD.out _).mono ?_
            rintro e w2 ⟨rfl, b⟩
            have yb := below_onto HB.out b HB.out.size
            have y1 := (b.block _ (Array.getElem?_eq_some_iff.1 X1.out).1).trans X1.out
            have y2 := (b.block _ (Array.getElem?_eq_some_iff.1 X2.out).1).trans X2.out
            have y3 := (b.block _ (Array.getElem?_eq_some_iff.1 X3.out).1).trans X3.out
            clear HB X1 X2 X3 b a0_ a1_ a2_ e0_ e1_ e2_ e3_ e4_ k0_ k1_ k2_ k3_ k4_ o0_ o1_ o2_ o3_ o4_ q0_ q1_ q2_ q3_ q4_
            have HB := Lib.hid yb
            have X1 := Lib.hid y1; have X2 := Lib.hid y2; have X3 := Lib.hid y3
            clear yb y1 y2 y3
            obtain ⟨a0_, a1_, a2_⟩ := cf_at X1.out
            obtain ⟨e0_, e1_, e2_, e3_, e4_, k0_, k1_, k2_, k3_, k4_⟩ := cs_at X2.out
            obtain ⟨o0_, o1_, o2_, o3_, o4_, q0_, q1_, q2_, q3_, q4_⟩ := cs_at X3.out
            go_upto_region 9 with (fail)
            have y1 : (w2.setCell ⟨B1, 0, none⟩ (.int .u64 r)).heap[w.heap.size]? = _ := ((heap_setCell_other _ ⟨B1, 0, none⟩ _ _ (by simp; omega)).trans X1.out)
            have y2 : (w2.setCell ⟨B1, 0, none⟩ (.int .u64 r)).heap[B1]? = some (.cells #[.int .u64 r, .int .u64 n, .int .u64 c, .int .u64 l, .bool true] 73 (0, 0)) := by simpa using (heap_put X2.out 0 (.int .u64 r))
            have y3 : (w2.setCell ⟨B1, 0, none⟩ (.int .u64 r)).heap[B2]? = _ := ((heap_setCell_other _ ⟨B1, 0, none⟩ _ _ (by simp; omega)).trans X3.out)
            have yb : Below w.heap.size w (w2.setCell ⟨B1, 0, none⟩ (.int .u64 r)) := by
              repeat' (first | (with_reducible exact HB.out) | refine Below.setCell ?_ s1_ _)
            generalize (w2.setCell ⟨B1, 0, none⟩ (.int .u64 r)) = w3 at y1 y2 y3 yb ⊢
            clear HB X1 X2 X3 a0_ a1_ a2_ e0_ e1_ e2_ e3_ e4_ k0_ k1_ k2_ k3_ k4_ o0_ o1_ o2_ o3_ o4_ q0_ q1_ q2_ q3_ q4_
            have HB := Lib.hid yb
            have X1 := Lib.hid y1; have X2 := Lib.hid y2; have X3 := Lib.hid y3
            clear yb y1 y2 y3
            obtain ⟨a0_, a1_, a2_⟩ := cf_at X1.out
            obtain ⟨e0_, e1_, e2_, e3_, e4_, k0_, k1_, k2_, k3_, k4_⟩ := cs_at X2.out
            obtain ⟨o0_, o1_, o2_, o3_, o4_, q0_, q1_, q2_, q3_, q4_⟩ := cs_at X3.out
            go_upto_region 12 with (fail)
            have y1 : (w3.setCell ⟨B1, 4, none⟩ (.bool false)).heap[w.heap.size]? = _ := ((heap_setCell_other _ ⟨B1, 4, none⟩ _ _ (by simp; omega)).trans X1.out)
            have y2 : (w3.setCell ⟨B1, 4, none⟩ (.bool false)).heap[B1]? = some (.cells #[.int .u64 r, .int .u64 n, .int .u64 c, .int .u64 l, .bool false] 73 (0, 0)) := by simpa using (heap_put X2.out 4 (.bool false))
            have y3 : (w3.setCell ⟨B1, 4, none⟩ (.bool false)).heap[B2]? = _ := ((heap_setCell_other _ ⟨B1, 4, none⟩ _ _ (by simp; omega)).trans X3.out)
            have yb : Below w.heap.size w (w3.setCell ⟨B1, 4, none⟩ (.bool false)) := by
              repeat' (first | (with_reducible exact HB.out) | refine Below.setCell ?_ s1_ _)
            generalize (w3.setCell ⟨B1, 4, none⟩ (.bool false)) = w4 at y1 y2 y3 yb ⊢
            clear HB X1 X2 X3 a0_ a1_ a2_ e0_ e1_ e2_ e3_ e4_ k0_ k1_ k2_ k3_ k4_ o0_ o1_ o2_ o3_ o4_ q0_ q1_ q2_ q3_ q4_
            have HB := Lib.hid yb
            have X1 := Lib.hid y1; have X2 := Lib.hid y2; have X3 := Lib.hid y3
            clear yb y1 y2 y3
            obtain ⟨a0_, a1_, a2_⟩ := cf_at X1.out
            obtain ⟨e0_, e1_, e2_, e3_, e4_, k0_, k1_, k2_, k3_, k4_⟩ := cs_at X2.out
            obtain ⟨o0_, o1_, o2_, o3_, o4_, q0_, q1_, q2_, q3_, q4_⟩ := cs_at X3.out
            go_wp2
            (try simp only [Exit.inBlock, Exit.then])
            have y3 := five_put X3.out (.int .u64 r) (.int .u64 n) (.int .u64 c) (.int .u64 l) (.bool false)
            have yb : Below w.heap.size w (((((w4.setCell ⟨B2, 0, none⟩ (.int .u64 r)).setCell ⟨B2, 1, none⟩ (.int .u64 n)).setCell ⟨B2, 2, none⟩ (.int .u64 c)).setCell ⟨B2, 3, none⟩ (.int .u64 l)).setCell ⟨B2, 4, none⟩ (.bool false)) := by
              repeat' (first | (with_reducible exact HB.out) | refine Below.setCell ?_ s2_ _)
            clear a0_ a1_ a2_ e0_ e1_ e2_ e3_ e4_ k0_ k1_ k2_ k3_ k4_ o0_ o1_ o2_ o3_ o4_ q0_ q1_ q2_ q3_ q4_
            generalize (((((w4.setCell ⟨B2, 0, none⟩ (.int .u64 r)).setCell ⟨B2, 1, none⟩ (.int .u64 n)).setCell ⟨B2, 2, none⟩ (.int .u64 c)).setCell ⟨B2, 3, none⟩ (.int .u64 l)).setCell ⟨B2, 4, none⟩ (.bool false)) = w99 at y3 yb ⊢
            obtain ⟨o0_, o1_, o2_, o3_, o4_, -⟩ := cs_at y3
            refine bodyPost_ret (v := .tuple #[.agg #[.int .u64 r, .int .u64 n, .int .u64 c, .int .u64 l, .bool false], .bool false]) (by simp [results, Try.results46, go_sem, o0_, o1_, o2_, o3_, o4_]) rfl ⟨rfl, yb⟩
        · have y1_ : (f == 0) = false := by simp [hf]
          have y2_ : (f != 0) = true := by simp [hf]
          rw [y1_, show (!false && decide (f ≤ now)) = decide (f ≤ now) from rfl]
          have e1_ : fol1 iv f now true = f := by unfold fol1; rw [if_pos rfl, if_neg hf]
          rw [e1_]
          clear e1_
          by_cases hn : f ≤ now
          · have z1_ : decide (f ≤ now) = true := decide_eq_true hn
            rw [z1_, if_pos rfl]
            cases d with
            | false =>
              rw [if_neg (by decide)]
              dsimp only
              by_cases hs : sub0 c l ≤ 1
              · exact rst_beg1 tg iv mt t0 v0 v1 m0 f n c l f0 f1 g0 g1 c0 c1 l0 l1 now wa be n0 n1 a0 b0 w hok ht hm hf hn hs
              · by_cases ht2 : 16 * iv ≤ sub0 now n
                · exact rst_beg2 tg iv mt t0 v0 v1 m0 f n c l f0 f1 g0 g1 c0 c1 l0 l1 now wa be n0 n1 a0 b0 w hok ht hm hf hn hs ht2
                · exact rst_beg3 tg iv mt t0 v0 v1 m0 f n c l f0 f1 g0 g1 c0 c1 l0 l1 now wa be n0 n1 a0 b0 w hok ht hm hf hn hs ht2
            | true =>
              rw [if_pos rfl]
              by_cases hx : n ≤ now
              · rw [if_pos hx]
                exact rst_again tg iv mt t0 v0 v1 m0 f n c l f0 f1 g0 g1 c0 c1 l0 l1 now wa be n0 n1 a0 b0 w hok ht hm hf hn hx
              · rw [if_neg hx]
                exact rst_wait tg iv mt t0 v0 v1 m0 f n c l f0 f1 g0 g1 c0 c1 l0 l1 now wa be n0 n1 a0 b0 w hok ht hm hf hn (by omega)
          · have z1_ : decide (f ≤ now) = false := decide_eq_false hn
            rw [z1_, if_neg (by decide)]
            dsimp only
            cases d with
            | false =>
              go_enter Try.func46, Try.ntmps46
              go_wp2_with fail
              refine (CK.out _).mono ?_
              rintro e w' ⟨rfl, rfl⟩
              have hx := three_at (Below.refl (((((w.alloc (.cells #[.int .u64 tg, .int .u64 iv, .int .u64 mt] 71)).alloc (.cells #[.int .u64 f, .int .u64 n, .int .u64 c, .int .u64 l, .bool false] 73)).alloc (.cells #[.int .u64 0, .int .u64 0, .int .u64 0, .int .u64 0, .bool false] 73)).alloc (.cells #[.int .u64 tg, .int .u64 iv, .int .u64 mt] 71)).heap.size) ((((w.alloc (.cells #[.int .u64 tg, .int .u64 iv, .int .u64 mt] 71)).alloc (.cells #[.int .u64 f, .int .u64 n, .int .u64 c, .int .u64 l, .bool false] 73)).alloc (.cells #[.int .u64 0, .int .u64 0, .int .u64 0, .int .u64 0, .bool false] 73)).alloc (.cells #[.int .u64 tg, .int .u64 iv, .int .u64 mt] 71)))
              have yb : Below w.heap.size w ((((w.alloc (.cells #[.int .u64 tg, .int .u64 iv, .int .u64 mt] 71)).alloc (.cells #[.int .u64 f, .int .u64 n, .int .u64 c, .int .u64 l, .bool false] 73)).alloc (.cells #[.int .u64 0, .int .u64 0, .int .u64 0, .int .u64 0, .bool false] 73)).alloc (.cells #[.int .u64 tg, .int .u64 iv, .int .u64 mt] 71)) := by
                repeat' (first | exact Below.refl _ _ | refine Below.alloc ?_ (by simp; try omega) _)
              generalize ((((w.alloc (.cells #[.int .u64 tg, .int .u64 iv, .int .u64 mt] 71)).alloc (.cells #[.int .u64 f, .int .u64 n, .int .u64 c, .int .u64 l, .bool false] 73)).alloc (.cells #[.int .u64 0, .int .u64 0, .int .u64 0, .int .u64 0, .bool false] 73)).alloc (.cells #[.int .u64 tg, .int .u64 iv, .int .u64 mt] 71)) = w1 at hx yb ⊢
              obtain ⟨x1, x2, x3⟩ := hx
              obtain ⟨B2, hB2⟩ : ∃ B2, B2 = w.heap.size + 1 + 1 := ⟨_, rfl⟩
              obtain ⟨B1, hB1⟩ : ∃ B1, B1 = w.heap.size + 1 := ⟨_, rfl⟩
              rw [← hB2] at x3 ⊢
              rw [← hB1] at x2 ⊢
              have n12 : ¬ B1 = B2 := by omega
              have n21 : ¬ B2 = B1 := by omega
              have n01 : ¬ w.heap.size = B1 := by omega
              have n02 : ¬ w.heap.size = B2 := by omega
              have n10 : ¬ B1 = w.heap.size := by omega
              have n20 : ¬ B2 = w.heap.size := by omega
              have s1_ : w.heap.size ≤ B1 := by omega
              have s2_ : w.heap.size ≤ B2 := by omega
              clear hB1 hB2
              have HB := Lib.hid yb
              have X1 := Lib.hid x1; have X2 := Lib.hid x2; have X3 := Lib.hid x3
              clear yb x1 x2 x3
              obtain ⟨a0_, a1_, a2_⟩ := cf_at X1.out
              obtain ⟨e0_, e1_, e2_, e3_, e4_, k0_, k1_, k2_, k3_, k4_⟩ := cs_at X2.out
              obtain ⟨o0_, o1_, o2_, o3_, o4_, q0_, q1_, q2_, q3_, q4_⟩ := cs_at X3.out
              go_wp2
              (try simp only [Exit.inBlock, Exit.then])
              have y3 := five_put X3.out (.int .u64 f) (.int .u64 n) (.int .u64 c) (.int .u64 l) (.bool false)
              have yb : Below w.heap.size w (((((w1.setCell ⟨B2, 0, none⟩ (.int .u64 f)).setCell ⟨B2, 1, none⟩ (.int .u64 n)).setCell ⟨B2, 2, none⟩ (.int .u64 c)).setCell ⟨B2, 3, none⟩ (.int .u64 l)).setCell ⟨B2, 4, none⟩ (.bool false)) := by
                repeat' (first | (with_reducible exact HB.out) | refine Below.setCell ?_ s2_ _)
              clear a0_ a1_ a2_ e0_ e1_ e2_ e3_ e4_ k0_ k1_ k2_ k3_ k4_ o0_ o1_ o2_ o3_ o4_ q0_ q1_ q2_ q3_ q4_
              generalize (((((w1.setCell ⟨B2, 0, none⟩ (.int .u64 f)).setCell ⟨B2, 1, none⟩ (.int .u64 n)).setCell ⟨B2, 2, none⟩ (.int .u64 c)).setCell ⟨B2, 3, none⟩ (.int .u64 l)).setCell ⟨B2, 4, none⟩ (.bool false)) = w99 at y3 yb ⊢
              obtain ⟨o0_, o1_, o2_, o3_, o4_, -⟩ := cs_at y3
              refine bodyPost_ret (v := .tuple #[.agg #[.int .u64 f, .int .u64 n, .int .u64 c, .int .u64 l, .bool false], .bool false]) (by simp [results, Try.results46, go_sem, o0_, o1_, o2_, o3_, o4_]) rfl ⟨rfl, yb⟩
            | true =>
              go_enter Try.func46, Try.ntmps46
              go_wp2_with fail
              refine (CK.out _).mono ?_
              rintro e w' ⟨rfl, rfl⟩
              have hx := three_at (Below.refl (((((w.alloc (.cells #[.int .u64 tg, .int .u64 iv, .int .u64 mt] 71)).alloc (.cells #[.int .u64 f, .int .u64 n, .int .u64 c, .int .u64 l, .bool true] 73)).alloc (.cells #[.int .u64 0, .int .u64 0, .int .u64 0, .int .u64 0, .bool false] 73)).alloc (.cells #[.int .u64 tg, .int .u64 iv, .int .u64 mt] 71)).heap.size) ((((w.alloc (.cells #[.int .u64 tg, .int .u64 iv, .int .u64 mt] 71)).alloc (.cells #[.int .u64 f, .int .u64 n, .int .u64 c, .int .u64 l, .bool true] 73)).alloc (.cells #[.int .u64 0, .int .u64 0, .int .u64 0, .int .u64 0, .bool false] 73)).alloc (.cells #[.int .u64 tg, .int .u64 iv, .int .u64 mt] 71)))
              have yb : Below w.heap.size w ((((w.alloc (.cells #[.int .u64 tg, .int .u64 iv, .int .u64 mt] 71)).alloc (.cells #[.int .u64 f, .int .u64 n, .int .u64 c, .int .u64 l, .bool true] 73)).alloc (.cells #[.int .u64 0, .int .u64 0, .int .u64 0, .int .u64 0, .bool false] 73)).alloc (.cells #[.int .u64 tg, .int .u64 iv, .int .u64 mt] 71)) := by
                repeat' (first | exact Below.refl _ _ | refine Below.alloc ?_ (by simp; try omega) _)
              generalize ((((w.alloc (.cells #[.int .u64 tg, .int .u64 iv, .int .u64 mt] 71)).alloc (.cells #[.int .u64 f, .int .u64 n, .int .u64 c, .int .u64 l, .bool true] 73)).alloc (.cells #[.int .u64 0, .int .u64 0, .int .u64 0, .int .u64 0, .bool false] 73)).alloc (.cells #[.int .u64 tg, .int .u64 iv, .int .u64 mt] 71)) = w1 at hx yb ⊢
              obtain ⟨x1, x2, x3⟩ := hx
              obtain ⟨B2, hB2⟩ : ∃ B2, B2 = w.heap.size + 1 + 1 := ⟨_, rfl⟩
              obtain ⟨B1, hB1⟩ : ∃ B1, B1 = w.heap.size + 1 := ⟨_, rfl⟩
              rw [← hB2] at x3 ⊢
              rw [← hB1] at x2 ⊢
              have n12 : ¬ B1 = B2 := by omega
              have n21 : ¬ B2 = B1 := by omega
              have n01 : ¬ w.heap.size = B1 := by omega
              have n02 : ¬ w.heap.size = B2 := by omega
              have n10 : ¬ B1 = w.heap.size := by omega
              have n20 : ¬ B2 = w.heap.size := by omega
              have s1_ : w.heap.size ≤ B1 := by omega
              have s2_ : w.heap.size ≤ B2 := by omega
              clear hB1 hB2
              have HB := Lib.hid yb
              have X1 := Lib.hid x1; have X2 := Lib.hid x2; have X3 := Lib.hid x3
              clear yb x1 x2 x3
              obtain ⟨a0_, a1_, a2_⟩ := cf_at X1.out
              obtain ⟨e0_, e1_, e2_, e3_, e4_, k0_, k1_, k2_, k3_, k4_⟩ := cs_at X2.out
              obtain ⟨o0_, o1_, o2_, o3_, o4_, q0_, q1_, q2_, q3_, q4_⟩ := cs_at X3.out
              go_upto_region 12 with (fail)
              have y1 : (w1.setCell ⟨B1, 4, none⟩ (.bool false)).heap[w.heap.size]? = _ := ((heap_setCell_other _ ⟨B1, 4, none⟩ _ _ (by simp; omega)).trans X1.out)
              have y2 : (w1.setCell ⟨B1, 4, none⟩ (.bool false)).heap[B1]? = some (.cells #[.int .u64 f, .int .u64 n, .int .u64 c, .int .u64 l, .bool false] 73 (0, 0)) := by simpa using (heap_put X2.out 4 (.bool false))
              have y3 : (w1.setCell ⟨B1, 4, none⟩ (.bool false)).heap[B2]? = _ := ((heap_setCell_other _ ⟨B1, 4, none⟩ _ _ (by simp; omega)).trans X3.out)
              have yb : Below w.heap.size w (w1.setCell ⟨B1, 4, none⟩ (.bool false)) := by
                repeat' (first | (with_reducible exact HB.out) | refine Below.setCell ?_ s1_ _)
              generalize (w1.setCell ⟨B1, 4, none⟩ (.bool false)) = w2 at y1 y2 y3 yb ⊢
              clear HB X1 X2 X3 a0_ a1_ a2_ e0_ e1_ e2_ e3_ e4_ k0_ k1_ k2_ k3_ k4_ o0_ o1_ o2_ o3_ o4_ q0_ q1_ q2_ q3_ q4_
              have HB := Lib.hid yb
              have X1 := Lib.hid y1; have X2 := Lib.hid y2; have X3 := Lib.hid y3
              clear yb y1 y2 y3
              obtain ⟨a0_, a1_, a2_⟩ := cf_at X1.out
              obtain ⟨e0_, e1_, e2_, e3_, e4_, k0_, k1_, k2_, k3_, k4_⟩ := cs_at X2.out
              obtain ⟨o0_, o1_, o2_, o3_, o4_, q0_, q1_, q2_, q3_, q4_⟩ := cs_at X3.out
              go_wp2
              (try simp only [Exit.inBlock, Exit.then])
              have y3 := five_put X3.out (.int .u64 f) (.int .u64 n) (.int .u64 c) (.int .u64 l) (.bool false)
              have yb : Below w.heap.size w (((((w2.setCell ⟨B2, 0, none⟩ (.int .u64 f)).setCell ⟨B2, 1, none⟩ (.int .u64 n)).setCell ⟨B2, 2, none⟩ (.int .u64 c)).setCell ⟨B2, 3, none⟩ (.int .u64 l)).setCell ⟨B2, 4, none⟩ (.bool false)) := by
                repeat' (first | (with_reducible exact HB.out) | refine Below.setCell ?_ s2_ _)
              clear a0_ a1_ a2_ e0_ e1_ e2_ e3_ e4_ k0_ k1_ k2_ k3_ k4_ o0_ o1_ o2_ o3_ o4_ q0_ q1_ q2_ q3_ q4_
              generalize (((((w2.setCell ⟨B2, 0, none⟩ (.int .u64 f)).setCell ⟨B2, 1, none⟩ (.int .u64 n)).setCell ⟨B2, 2, none⟩ (.int .u64 c)).setCell ⟨B2, 3, none⟩ (.int .u64 l)).setCell ⟨B2, 4, none⟩ (.bool false)) = w99 at y3 yb ⊢
              obtain ⟨o0_, o1_, o2_, o3_, o4_, -⟩ := cs_at y3
              refine bodyPost_ret (v := .tuple #[.agg #[.int .u64 f, .int .u64 n, .int .u64 c, .int .u64 l, .bool false], .bool false]) (by simp [results, Try.results46, go_sem, o0_, o1_, o2_, o3_, o4_]) rfl ⟨rfl, yb⟩
      · have hl : clate tg mt wa be = false := by unfold clate; rw [decide_eq_false hm, Bool.and_false]
        have x1_ : decide (tg ≤ wa) = true := decide_eq_true ht
        have x2_ : decide (mt < be) = false := decide_eq_false hm
        unfold ctime
        rw [hl, Bool.false_and, if_neg (by decide)]
        clear hl
        have e1_ : fol1 iv f now false = 0 := by unfold fol1; rw [if_neg (by decide)]
        rw [e1_]
        clear e1_
        dsimp only
        cases d with
        | false =>
          go_enter Try.func46, Try.ntmps46
          go_wp2_with fail
          refine (CK.out _).mono ?_
          rintro e w' ⟨rfl, rfl⟩
          have hx := three_at (Below.refl (((((w.alloc (.cells #[.int .u64 tg, .int .u64 iv, .int .u64 mt] 71)).alloc (.cells #[.int .u64 f, .int .u64 n, .int .u64 c, .int .u64 l, .bool false] 73)).alloc (.cells #[.int .u64 0, .int .u64 0, .int .u64 0, .int .u64 0, .bool false] 73)).alloc (.cells #[.int .u64 tg, .int .u64 iv, .int .u64 mt] 71)).heap.size) ((((w.alloc (.cells #[.int .u64 tg, .int .u64 iv, .int .u64 mt] 71)).alloc (.cells #[.int .u64 f, .int .u64 n, .int .u64 c, .int .u64 l, .bool false] 73)).alloc (.cells #[.int .u64 0, .int .u64 0, .int .u64 0, .int .u64 0, .bool false] 73)).alloc (.cells #[.int .u64 tg, .int .u64 iv, .int .u64 mt] 71)))
          have yb : Below w.heap.size w ((((w.alloc (.cells #[.int .u64 tg, .int .u64 iv, .int .u64 mt] 71)).alloc (.cells #[.int .u64 f, .int .u64 n, .int .u64 c, .int .u64 l, .bool false] 73)).alloc (.cells #[.int .u64 0, .int .u64 0, .int .u64 0, .int .u64 0, .bool false] 73)).alloc (.cells #[.int .u64 tg, .int .u64 iv, .int .u64 mt] 71)) := by
            repeat' (first | exact Below.refl _ _ | refine Below.alloc ?_ (by simp; try omega) _)
          generalize ((((w.alloc (.cells #[.int .u64 tg, .int .u64 iv, .int .u64 mt] 71)).alloc (.cells #[.int .u64 f, .int .u64 n, .int .u64 c, .int .u64 l, .bool false] 73)).alloc (.cells #[.int .u64 0, .int .u64 0, .int .u64 0, .int .u64 0, .bool false] 73)).alloc (.cells #[.int .u64 tg, .int .u64 iv, .int .u64 mt] 71)) = w1 at hx yb ⊢
          obtain ⟨x1, x2, x3⟩ := hx
          obtain ⟨B2, hB2⟩ : ∃ B2, B2 = w.heap.size + 1 + 1 := ⟨_, rfl⟩
          obtain ⟨B1, hB1⟩ : ∃ B1, B1 = w.heap.size + 1 := ⟨_, rfl⟩
          rw [← hB2] at x3 ⊢
          rw [← hB1] at x2 ⊢
          have n12 : ¬ B1 = B2 := by omega
          have n21 : ¬ B2 = B1 := by omega
          have n01 : ¬ w.heap.size = B1 := by omega
          have n02 : ¬ w.heap.size = B2 := by omega
          have n10 : ¬ B1 = w.heap.size := by omega
          have n20 : ¬ B2 = w.heap.size := by omega
          have s1_ : w.heap.size ≤ B1 := by omega
          have s2_ : w.heap.size ≤ B2 := by omega
          clear hB1 hB2
          have HB := Lib.hid yb
          have X1 := Lib.hid x1; have X2 := Lib.hid x2; have X3 := Lib.hid x3
          clear yb x1 x2 x3
          obtain ⟨a0_, a1_, a2_⟩ := cf_at X1.out
          obtain ⟨e0_, e1_, e2_, e3_, e4_, k0_, k1_, k2_, k3_, k4_⟩ := cs_at X2.out
          obtain ⟨o0_, o1_, o2_, o3_, o4_, q0_, q1_, q2_, q3_, q4_⟩ := cs_at X3.out
          go_upto_region 9 with (fail)
          have y1 : (w1.setCell ⟨B1, 0, none⟩ (.int .u64 0)).heap[w.heap.size]? = _ := ((heap_setCell_other _ ⟨B1, 0, none⟩ _ _ (by simp; omega)).trans X1.out)
          have y2 : (w1.setCell ⟨B1, 0, none⟩ (.int .u64 0)).heap[B1]? = some (.cells #[.int .u64 0, .int .u64 n, .int .u64 c, .int .u64 l, .bool false] 73 (0, 0)) := by simpa using (heap_put X2.out 0 (.int .u64 0))
          have y3 : (w1.setCell ⟨B1, 0, none⟩ (.int .u64 0)).heap[B2]? = _ := ((heap_setCell_other _ ⟨B1, 0, none⟩ _ _ (by simp; omega)).trans X3.out)
          have yb : Below w.heap.size w (w1.setCell ⟨B1, 0, none⟩ (.int .u64 0)) := by
            repeat' (first | (with_reducible exact HB.out) | refine Below.setCell ?_ s1_ _)
          generalize (w1.setCell ⟨B1, 0, none⟩ (.int .u64 0)) = w2 at y1 y2 y3 yb ⊢
          clear HB X1 X2 X3 a0_ a1_ a2_ e0_ e1_ e2_ e3_ e4_ k0_ k1_ k2_ k3_ k4_ o0_ o1_ o2_ o3_ o4_ q0_ q1_ q2_ q3_ q4_
          have HB := Lib.hid yb
          have X1 := Lib.hid y1; have X2 := Lib.hid y2; have X3 := Lib.hid y3
          clear yb y1 y2 y3
          obtain ⟨a0_, a1_, a2_⟩ := cf_at X1.out
          obtain ⟨e0_, e1_, e2_, e3_, e4_, k0_, k1_, k2_, k3_, k4_⟩ := cs_at X2.out
          obtain ⟨o0_, o1_, o2_, o3_, o4_, q0_, q1_, q2_, q3_, q4_⟩ := cs_at X3.out
          go_wp2
          (try simp only [Exit.inBlock, Exit.then])
          have y3 := five_put X3.out (.int .u64 0) (.int .u64 n) (.int .u64 c) (.int .u64 l) (.bool false)
          have yb : Below w.heap.size w (((((w2.setCell ⟨B2, 0, none⟩ (.int .u64 0)).setCell ⟨B2, 1, none⟩ (.int .u64 n)).setCell ⟨B2, 2, none⟩ (.int .u64 c)).setCell ⟨B2, 3, none⟩ (.int .u64 l)).setCell ⟨B2, 4, none⟩ (.bool false)) := by
            repeat' (first | (with_reducible exact HB.out) | refine Below.setCell ?_ s2_ _)
          clear a0_ a1_ a2_ e0_ e1_ e2_ e3_ e4_ k0_ k1_ k2_ k3_ k4_ o0_ o1_ o2_ o3_ o4_ q0_ q1_ q2_ q3_ q4_
          generalize (((((w2.setCell ⟨B2, 0, none⟩ (.int .u64 0)).setCell ⟨B2, 1, none⟩ (.int .u64 n)).setCell ⟨B2, 2, none⟩ (.int .u64 c)).setCell ⟨B2, 3, none⟩ (.int .u64 l)).setCell ⟨B2, 4, none⟩ (.bool false)) = w99 at y3 yb ⊢
          obtain ⟨o0_, o1_, o2_, o3_, o4_, -⟩ := cs_at y3
          refine bodyPost_ret (v := .tuple #[.agg #[.int .u64 0, .int .u64 n, .int .u64 c, .int .u64 l, .bool false], .bool false]) (by simp [results, Try.results46, go_sem, o0_, o1_, o2_, o3_, o4_]) rfl ⟨rfl, yb⟩
        | true =>
          go_enter Try.func46, Try.ntmps46
          go_wp2_with fail
          refine (CK.out _).mono ?_
          rintro e w' ⟨rfl, rfl⟩
          have hx := three_at (Below.refl (((((w.alloc (.cells #[.int .u64 tg, .int .u64 iv, .int .u64 mt] 71)).alloc (.cells #[.int .u64 f, .int .u64 n, .int .u64 c, .int .u64 l, .bool true] 73)).alloc (.cells #[.int .u64 0, .int .u64 0, .int .u64 0, .int .u64 0, .bool false] 73)).alloc (.cells #[.int .u64 tg, .int .u64 iv, .int .u64 mt] 71)).heap.size) ((((w.alloc (.cells #[.int .u64 tg, .int .u64 iv, .int .u64 mt] 71)).alloc (.cells #[.int .u64 f, .int .u64 n, .int .u64 c, .int .u64 l, .bool true] 73)).alloc (.cells #[.int .u64 0, .int .u64 0, .int .u64 0, .int .u64 0, .bool false] 73)).alloc (.cells #[.int .u64 tg, .int .u64 iv, .int .u64 mt] 71)))
          have yb : Below w.heap.size w ((((w.alloc (.cells #[.int .u64 tg, .int .u64 iv, .int .u64 mt] 71)).alloc (.cells #[.int .u64 f, .int .u64 n, .int .u64 c, .int .u64 l, .bool true] 73)).alloc (.cells #[.int .u64 0, .int .u64 0, .int .u64 0, .int .u64 0, .bool false] 73)).alloc (.cells #[.int .u64 tg, .int .u64 iv, .int .u64 mt] 71)) := by
            repeat' (first | exact Below.refl _ _ | refine Below.alloc ?_ (by simp; try omega) _)
          generalize ((((w.alloc (.cells #[.int .u64 tg, .int .u64 iv, .int .u64 mt] 71)).alloc (.cells #[.int .u64 f, .int .u64 n, .int .u64 c, .int .u64 l, .bool true] 73)).alloc (.cells #[.int .u64 0, .int .u64 0, .int .u64 0, .int .u64 0, .bool false] 73)).alloc (.cells #[.int .u64 tg, .int .u64 iv, .int .u64 mt] 71)) = w1 at hx yb ⊢
          obtain ⟨x1, x2, x3⟩ := hx
          obtain ⟨B2, hB2⟩ : ∃ B2, B2 = w.heap.size + 1 + 1 := ⟨_, rfl⟩
          obtain ⟨B1, hB1⟩ : ∃ B1, B1 = w.heap.size + 1 := ⟨_, rfl⟩
          rw [← hB2] at x3 ⊢
          rw [← hB1] at x2 ⊢
          have n12 : ¬ B1 = B2 := by omega
          have n21 : ¬ B2 = B1 := by omega
          have n01 : ¬ w.heap.size = B1 := by omega
          have n02 : ¬ w.heap.size = B2 := by omega
          have n10 : ¬ B1 = w.heap.size := by omega
          have n20 : ¬ B2 = w.heap.size := by omega
          have s1_ : w.heap.size ≤ B1 := by omega
          have s2_ : w.heap.size ≤ B2 := by omega
          clear hB1 hB2
          have HB := Lib.hid yb
          have X1 := Lib.hid x1; have X2 := Lib.hid x2; have X3 := Lib.hid x3
          clear yb x1 x2 x3
          obtain ⟨a0_, a1_, a2_⟩ := cf_at X1.out
          obtain ⟨e0_, e1_, e2_, e3_, e4_, k0_, k1_, k2_, k3_, k4_⟩ := cs_at X2.out
          obtain ⟨o0_, o1_, o2_, o3_, o4_, q0_, q1_, q2_, q3_, q4_⟩ := cs_at X3.out
          go_upto_region 9 with (fail)
          have y1 : (w1.setCell ⟨B1, 0, none⟩ (.int .u64 0)).heap[w.heap.size]? = _ := ((heap_setCell_other _ ⟨B1, 0, none⟩ _ _ (by simp; omega)).trans X1.out)
          have y2 : (w1.setCell ⟨B1, 0, none⟩ (.int .u64 0)).heap[B1]? = some (.cells #[.int .u64 0, .int .u64 n, .int .u64 c, .int .u64 l, .bool true] 73 (0, 0)) := by simpa using (heap_put X2.out 0 (.int .u64 0))
          have y3 : (w1.setCell ⟨B1, 0, none⟩ (.int .u64 0)).heap[B2]? = _ := ((heap_setCell_other _ ⟨B1, 0, none⟩ _ _ (by simp; omega)).trans X3.out)
          have yb : Below w.heap.size w (w1.setCell ⟨B1, 0, none⟩ (.int .u64 0)) := by
            repeat' (first | (with_reducible exact HB.out) | refine Below.setCell ?_ s1_ _)
          generalize (w1.setCell ⟨B1, 0, none⟩ (.int .u64 0)) = w2 at y1 y2 y3 yb ⊢
          clear HB X1 X2 X3 a0_ a1_ a2_ e0_ e1_ e2_ e3_ e4_ k0_ k1_ k2_ k3_ k4_ o0_ o1_ o2_ o3_ o4_ q0_ q1_ q2_ q3_ q4_
          have HB := Lib.hid yb
          have X1 := Lib.hid y1; have X2 := Lib.hid y2; have X3 := Lib.hid y3
          clear yb y1 y2 y3
          obtain ⟨a0_, a1_, a2_⟩ := cf_at X1.out
          obtain ⟨e0_, e1_, e2_, e3_, e4_, k0_, k1_, k2_, k3_, k4_⟩ := cs_at X2.out
          obtain ⟨o0_, o1_, o2_, o3_, o4_, q0_, q1_, q2_, q3_, q4_⟩ := cs_at X3.out
          go_upto_region 12 with (fail)
          have y1 : (w2.setCell ⟨B1, 4, none⟩ (.bool false)).heap[w.heap.size]? = _ := ((heap_setCell_other _ ⟨B1, 4, none⟩ _ _ (by simp; omega)).trans X1.out)
          have y2 : (w2.setCell ⟨B1, 4, none⟩ (.bool false)).heap[B1]? = some (.cells #[.int .u64 0, .int .u64 n, .int .u64 c, .int .u64 l, .bool false] 73 (0, 0)) := by simpa using (heap_put X2.out 4 (.bool false))
          have y3 : (w2.setCell ⟨B1, 4, none⟩ (.bool false)).heap[B2]? = _ := ((heap_setCell_other _ ⟨B1, 4, none⟩ _ _ (by simp; omega)).trans X3.out)
          have yb : Below w.heap.size w (w2.setCell ⟨B1, 4, none⟩ (.bool false)) := by
            repeat' (first | (with_reducible exact HB.out) | refine Below.setCell ?_ s1_ _)
          generalize (w2.setCell ⟨B1, 4, none⟩ (.bool false)) = w3 at y1 y2 y3 yb ⊢
          clear HB X1 X2 X3 a0_ a1_ a2_ e0_ e1_ e2_ e3_ e4_ k0_ k1_ k2_ k3_ k4_ o0_ o1_ o2_ o3_ o4_ q0_ q1_ q2_ q3_ q4_
          have HB := Lib.hid yb
          have X1 := Lib.hid y1; have X2 := Lib.hid y2; have X3 := Lib.hid y3
          clear yb y1 y2 y3
          obtain ⟨a0_, a1_, a2_⟩ := cf_at X1.out
          obtain ⟨e0_, e1_, e2_, e3_, e4_, k0_, k1_, k2_, k3_, k4_⟩ := cs_at X2.out
          obtain ⟨o0_, o1_, o2_, o3_, o4_, q0_, q1_, q2_, q3_, q4_⟩ := cs_at X3.out
          go_wp2
          (try simp only [Exit.inBlock, Exit.then])
          have y3 := five_put X3.out (.int .u64 0) (.int .u64 n) (.int .u64 c) (.int .u64 l) (.bool false)
          have yb : Below w.heap.size w (((((w3.setCell ⟨B2, 0, none⟩ (.int .u64 0)).setCell ⟨B2, 1, none⟩ (.int .u64 n)).setCell ⟨B2, 2, none⟩ (.int .u64 c)).setCell ⟨B2, 3, none⟩ (.int .u64 l)).setCell ⟨B2, 4, none⟩ (.bool false)) := by
            repeat' (first | (with_reducible exact HB.out) | refine Below.setCell ?_ s2_ _)
          clear a0_ a1_ a2_ e0_ e1_ e2_ e3_ e4_ k0_ k1_ k2_ k3_ k4_ o0_ o1_ o2_ o3_ o4_ q0_ q1_ q2_ q3_ q4_
          generalize (((((w3.setCell ⟨B2, 0, none⟩ (.int .u64 0)).setCell ⟨B2, 1, none⟩ (.int .u64 n)).setCell ⟨B2, 2, none⟩ (.int .u64 c)).setCell ⟨B2, 3, none⟩ (.int .u64 l)).setCell ⟨B2, 4, none⟩ (.bool false)) = w99 at y3 yb ⊢
          obtain ⟨o0_, o1_, o2_, o3_, o4_, -⟩ := cs_at y3
          refine bodyPost_ret (v := .tuple #[.agg #[.int .u64 0, .int .u64 n, .int .u64 c, .int .u64 l, .bool false], .bool false]) (by simp [results, Try.results46, go_sem, o0_, o1_, o2_, o3_, o4_]) rfl ⟨rfl, yb⟩
    · have hl : clate tg mt wa be = false := by unfold clate; rw [decide_eq_false ht, Bool.false_and]
      have x1_ : decide (tg ≤ wa) = false := decide_eq_false ht
      unfold ctime
      rw [hl, Bool.false_and, if_neg (by decide)]
      clear hl
      have e1_ : fol1 iv f now false = 0 := by unfold fol1; rw [if_neg (by decide)]
      rw [e1_]
      clear e1_
      dsimp only
      cases d with
      | false =>
        go_enter Try.func46, Try.ntmps46
        go_wp2_with fail
        refine (CK.out _).mono ?_
        rintro e w' ⟨rfl, rfl⟩
        have hx := three_at (Below.refl (((((w.alloc (.cells #[.int .u64 tg, .int .u64 iv, .int .u64 mt] 71)).alloc (.cells #[.int .u64 f, .int .u64 n, .int .u64 c, .int .u64 l, .bool false] 73)).alloc (.cells #[.int .u64 0, .int .u64 0, .int .u64 0, .int .u64 0, .bool false] 73)).alloc (.cells #[.int .u64 tg, .int .u64 iv, .int .u64 mt] 71)).heap.size) ((((w.alloc (.cells #[.int .u64 tg, .int .u64 iv, .int .u64 mt] 71)).alloc (.cells #[.int .u64 f, .int .u64 n, .int .u64 c, .int .u64 l, .bool false] 73)).alloc (.cells #[.int .u64 0, .int .u64 0, .int .u64 0, .int .u64 0, .bool false] 73)).alloc (.cells #[.int .u64 tg, .int .u64 iv, .int .u64 mt] 71)))
        have yb : Below w.heap.size w ((((w.alloc (.cells #[.int .u64 tg, .int .u64 iv, .int .u64 mt] 71)).alloc (.cells #[.int .u64 f, .int .u64 n, .int .u64 c, .int .u64 l, .bool false] 73)).alloc (.cells #[.int .u64 0, .int .u64 0, .int .u64 0, .int .u64 0, .bool false] 73)).alloc (.cells #[.int .u64 tg, .int .u64 iv, .int .u64 mt] 71)) := by
          repeat' (first | exact Below.refl _ _ | refine Below.alloc ?_ (by simp; try omega) _)
        generalize ((((w.alloc (.cells #[.int .u64 tg, .int .u64 iv, .int .u64 mt] 71)).alloc (.cells #[.int .u64 f, .int .u64 n, .int .u64 c, .int .u64 l, .bool false] 73)).alloc (.cells #[.int .u64 0, .int .u64 0, .int .u64 0, .int .u64 0, .bool false] 73)).alloc (.cells #[.int .u64 tg, .int .u64 iv, .int .u64 mt] 71)) = w1 at hx yb ⊢
        obtain ⟨x1, x2, x3⟩ := hx
        obtain ⟨B2, hB2⟩ : ∃ B2, B2 = w.heap.size + 1 + 1 := ⟨_, rfl⟩
        obtain ⟨B1, hB1⟩ : ∃ B1, B1 = w.heap.size + 1 := ⟨_, rfl⟩
        rw [← hB2] at x3 ⊢
        rw [← hB1] at x2 ⊢
        have n12 : ¬ B1 = B2 := by omega
        have n21 : ¬ B2 = B1 := by omega
        have n01 : ¬ w.heap.size = B1 := by omega
        have n02 : ¬ w.heap.size = B2 := by omega
        have n10 : ¬ B1 = w.heap.size := by omega
        have n20 : ¬ B2 = w.heap.size := by omega
        have s1_ : w.heap.size ≤ B1 := by omega
        have s2_ : w.heap.size ≤ B2 := by omega
        clear hB1 hB2
        have HB := Lib.hid yb
        have X1 := Lib.hid x1; have X2 := Lib.hid x2; have X3 := Lib.hid x3
        clear yb x1 x2 x3
        obtain ⟨a0_, a1_, a2_⟩ := cf_at X1.out
        obtain ⟨e0_, e1_, e2_, e3_, e4_, k0_, k1_, k2_, k3_, k4_⟩ := cs_at X2.out
        obtain ⟨o0_, o1_, o2_, o3_, o4_, q0_, q1_, q2_, q3_, q4_⟩ := cs_at X3.out
        go_upto_region 9 with (fail)
        have y1 : (w1.setCell ⟨B1, 0, none⟩ (.int .u64 0)).heap[w.heap.size]? = _ := ((heap_setCell_other _ ⟨B1, 0, none⟩ _ _ (by simp; omega)).trans X1.out)
        have y2 : (w1.setCell ⟨B1, 0, none⟩ (.int .u64 0)).heap[B1]? = some (.cells #[.int .u64 0, .int .u64 n, .int .u64 c, .int .u64 l, .bool false] 73 (0, 0)) := by simpa using (heap_put X2.out 0 (.int .u64 0))
        have y3 : (w1.setCell ⟨B1, 0, none⟩ (.int .u64 0)).heap[B2]? = _ := ((heap_setCell_other _ ⟨B1, 0, none⟩ _ _ (by simp; omega)).trans X3.out)
        have yb : Below w.heap.size w (w1.setCell ⟨B1, 0, none⟩ (.int .u64 0)) := by
          repeat' (first | (with_reducible exact HB.out) | refine Below.setCell ?_ s1_ _)
        generalize (w1.setCell ⟨B1, 0, none⟩ (.int .u64 0)) = w2 at y1 y2 y3 yb ⊢
        clear HB X1 X2 X3 a0_ a1_ a2_ e0_ e1_ e2_ e3_ e4_ k0_ k1_ k2_ k3_ k4_ o0_ o1_ o2_ o3_ o4_ q0_ q1_ q2_ q3_ q4_
        have HB := Lib.hid yb
        have X1 := Lib.hid y1; have X2 := Lib.hid y2; have X3 := Lib.hid y3
        clear yb y1 y2 y3
        obtain ⟨a0_, a1_, a2_⟩ := cf_at X1.out
        obtain ⟨e0_, e1_, e2_, e3_, e4_, k0_, k1_, k2_, k3_, k4_⟩ := cs_at X2.out
        obtain ⟨o0_, o1_, o2_, o3_, o4_, q0_, q1_, q2_, q3_, q4_⟩ := cs_at X3.out
        go_wp2
        (try simp only [Exit.inBlock, Exit.then])
        have y3 := five_put X3.out (.int .u64 0) (.int .u64 n) (.int .u64 c) (.int .u64 l) (.bool false)
        have yb : Below w.heap.size w (((((w2.setCell ⟨B2, 0, none⟩ (.int .u64 0)).setCell ⟨B2, 1, none⟩ (.int .u64 n)).setCell ⟨B2, 2, none⟩ (.int .u64 c)).setCell ⟨B2, 3, none⟩ (.int .u64 l)).setCell ⟨B2, 4, none⟩ (.bool false)) := by
          repeat' (first | (with_reducible exact HB.out) | refine Below.setCell ?_ s2_ _)
        clear a0_ a1_ a2_ e0_ e1_ e2_ e3_ e4_ k0_ k1_ k2_ k3_ k4_ o0_ o1_ o2_ o3_ o4_ q0_ q1_ q2_ q3_ q4_
        generalize (((((w2.setCell ⟨B2, 0, none⟩ (.int .u64 0)).setCell ⟨B2, 1, none⟩ (.int .u64 n)).setCell ⟨B2, 2, none⟩ (.int .u64 c)).setCell ⟨B2, 3, none⟩ (.int .u64 l)).setCell ⟨B2, 4, none⟩ (.bool false)) = w99 at y3 yb ⊢
        obtain ⟨o0_, o1_, o2_, o3_, o4_, -⟩ := cs_at y3
        refine bodyPost_ret (v := .tuple #[.agg #[.int .u64 0, .int .u64 n, .int .u64 c, .int .u64 l, .bool false], .bool false]) (by simp [results, Try.results46, go_sem, o0_, o1_, o2_, o3_, o4_]) rfl ⟨rfl, yb⟩
      | true =>
        go_enter Try.func46, Try.ntmps46
        go_wp2_with fail
        refine (CK.out _).mono ?_
        rintro e w' ⟨rfl, rfl⟩
        have hx := three_at (Below.refl (((((w.alloc (.cells #[.int .u64 tg, .int .u64 iv, .int .u64 mt] 71)).alloc (.cells #[.int .u64 f, .int .u64 n, .int .u64 c, .int .u64 l, .bool true] 73)).alloc (.cells #[.int .u64 0, .int .u64 0, .int .u64 0, .int .u64 0, .bool false] 73)).alloc (.cells #[.int .u64 tg, .int .u64 iv, .int .u64 mt] 71)).heap.size) ((((w.alloc (.cells #[.int .u64 tg, .int .u64 iv, .int .u64 mt] 71)).alloc (.cells #[.int .u64 f, .int .u64 n, .int .u64 c, .int .u64 l, .bool true] 73)).alloc (.cells #[.int .u64 0, .int .u64 0, .int .u64 0, .int .u64 0, .bool false] 73)).alloc (.cells #[.int .u64 tg, .int .u64 iv, .int .u64 mt] 71)))
        have yb : Below w.heap.size w ((((w.alloc (.cells #[.int .u64 tg, .int .u64 iv, .int .u64 mt] 71)).alloc (.cells #[.int .u64 f, .int .u64 n, .int .u64 c, .int .u64 l, .bool true] 73)).alloc (.cells #[.int .u64 0, .int .u64 0, .int .u64 0, .int .u64 0, .bool false] 73)).alloc (.cells #[.int .u64 tg, .int .u64 iv, .int .u64 mt] 71)) := by
          repeat' (first | exact Below.refl _ _ | refine Below.alloc ?_ (by simp; try omega) _)
        generalize ((((w.alloc (.cells #[.int .u64 tg, .int .u64 iv, .int .u64 mt] 71)).alloc (.cells #[.int .u64 f, .int .u64 n, .int .u64 c, .int .u64 l, .bool true] 73)).alloc (.cells #[.int .u64 0, .int .u64 0, .int .u64 0, .int .u64 0, .bool false] 73)).alloc (.cells #[.int .u64 tg, .int .u64 iv, .int .u64 mt] 71)) = w1 at hx yb ⊢
        obtain ⟨x1, x2, x3⟩ := hx
        obtain ⟨B2, hB2⟩ : ∃ B2, B2 = w.heap.size + 1 + 1 := ⟨_, rfl⟩
        obtain ⟨B1, hB1⟩ : ∃ B1, B1 = w.heap.size + 1 := ⟨_, rfl⟩
        rw [← hB2] at x3 ⊢
        rw [← hB1] at x2 ⊢
        have n12 : ¬ B1 = B2 := by omega
        have n21 : ¬ B2 = B1 := by omega
        have n01 : ¬ w.heap.size = B1 := by omega
        have n02 : ¬ w.heap.size = B2 := by omega
        have n10 : ¬ B1 = w.heap.size := by omega
        have n20 : ¬ B2 = w.heap.size := by omega
        have s1_ : w.heap.size ≤ B1 := by omega
        have s2_ : w.heap.size ≤ B2 := by omega
        clear hB1 hB2
        have HB := Lib.hid yb
        have X1 := Lib.hid x1; have X2 := Lib.hid x2; have X3 := Lib.hid x3
        clear yb x1 x2 x3
        obtain ⟨a0_, a1_, a2_⟩ := cf_at X1.out
        obtain ⟨e0_, e1_, e2_, e3_, e4_, k0_, k1_, k2_, k3_, k4_⟩ := cs_at X2.out
        obtain ⟨o0_, o1_, o2_, o3_, o4_, q0_, q1_, q2_, q3_, q4_⟩ := cs_at X3.out
        go_upto_region 9 with (fail)
        have y1 : (w1.setCell ⟨B1, 0, none⟩ (.int .u64 0)).heap[w.heap.size]? = _ := ((heap_setCell_other _ ⟨B1, 0, none⟩ _ _ (by simp; omega)).trans X1.out)
        have y2 : (w1.setCell ⟨B1, 0, none⟩ (.int .u64 0)).heap[B1]? = some (.cells #[.int .u64 0, .int .u64 n, .int .u64 c, .int .u64 l, .bool true] 73 (0, 0)) := by simpa using (heap_put X2.out 0 (.int .u64 0))
        have y3 : (w1.setCell ⟨B1, 0, none⟩ (.int .u64 0)).heap[B2]? = _ := ((heap_setCell_other _ ⟨B1, 0, none⟩ _ _ (by simp; omega)).trans X3.out)
        have yb : Below w.heap.size w (w1.setCell ⟨B1, 0, none⟩ (.int .u64 0)) := by
          repeat' (first | (with_reducible exact HB.out) | refine Below.setCell ?_ s1_ _)
        generalize (w1.setCell ⟨B1, 0, none⟩ (.int .u64 0)) = w2 at y1 y2 y3 yb ⊢
        clear HB X1 X2 X3 a0_ a1_ a2_ e0_ e1_ e2_ e3_ e4_ k0_ k1_ k2_ k3_ k4_ o0_ o1_ o2_ o3_ o4_ q0_ q1_ q2_ q3_ q4_
        have HB := Lib.hid yb
        have X1 := Lib.hid y1; have X2 := Lib.hid y2; have X3 := Lib.hid y3
        clear yb y1 y2 y3
        obtain ⟨a0_, a1_, a2_⟩ := cf_at X1.out
        obtain ⟨e0_, e1_, e2_, e3_, e4_, k0_, k1_, k2_, k3_, k4_⟩ := cs_at X2.out
        obtain ⟨o0_, o1_, o2_, o3_, o4_, q0_, q1_, q2_, q3_, q4_⟩ := cs_at X3.out
        go_upto_region 12 with (fail)
        have y1 : (w2.setCell ⟨B1, 4, none⟩ (.bool false)).heap[w.heap.size]? = _ := ((heap_setCell_other _ ⟨B1, 4, none⟩ _ _ (by simp; omega)).trans X1.out)
        have y2 : (w2.setCell ⟨B1, 4, none⟩ (.bool false)).heap[B1]? = some (.cells #[.int .u64 0, .int .u64 n, .int .u64 c, .int .u64 l, .bool false] 73 (0, 0)) := by simpa using (heap_put X2.out 4 (.bool false))
        have y3 : (w2.setCell ⟨B1, 4, none⟩ (.bool false)).heap[B2]? = _ := ((heap_setCell_other _ ⟨B1, 4, none⟩ _ _ (by simp; omega)).trans X3.out)
        have yb : Below w.heap.size w (w2.setCell ⟨B1, 4, none⟩ (.bool false)) := by
          repeat' (first | (with_reducible exact HB.out) | refine Below.setCell ?_ s1_ _)
        generalize (w2.setCell ⟨B1, 4, none⟩ (.bool false)) = w3 at y1 y2 y3 yb ⊢
        clear HB X1 X2 X3 a0_ a1_ a2_ e0_ e1_ e2_ e3_ e4_ k0_ k1_ k2_ k3_ k4_ o0_ o1_ o2_ o3_ o4_ q0_ q1_ q2_ q3_ q4_
        have HB := Lib.hid yb
        have X1 := Lib.hid y1; have X2 := Lib.hid y2; have X3 := Lib.hid y3
        clear yb y1 y2 y3
        obtain ⟨a0_, a1_, a2_⟩ := cf_at X1.out
        obtain ⟨e0_, e1_, e2_, e3_, e4_, k0_, k1_, k2_, k3_, k4_⟩ := cs_at X2.out
        obtain ⟨o0_, o1_, o2_, o3_, o4_, q0_, q1_, q2_, q3_, q4_⟩ := cs_at X3.out
        go_wp2
        (try simp only [Exit.inBlock, Exit.then])
        have y3 := five_put X3.out (.int .u64 0) (.int .u64 n) (.int .u64 c) (.int .u64 l) (.bool false)
        have yb : Below w.heap.size w (((((w3.setCell ⟨B2, 0, none⟩ (.int .u64 0)).setCell ⟨B2, 1, none⟩ (.int .u64 n)).setCell ⟨B2, 2, none⟩ (.int .u64 c)).setCell ⟨B2, 3, none⟩ (.int .u64 l)).setCell ⟨B2, 4, none⟩ (.bool false)) := by
          repeat' (first | (with_reducible exact HB.out) | refine Below.setCell ?_ s2_ _)
        clear a0_ a1_ a2_ e0_ e1_ e2_ e3_ e4_ k0_ k1_ k2_ k3_ k4_ o0_ o1_ o2_ o3_ o4_ q0_ q1_ q2_ q3_ q4_
        generalize (((((w3.setCell ⟨B2, 0, none⟩ (.int .u64 0)).setCell ⟨B2, 1, none⟩ (.int .u64 n)).setCell ⟨B2, 2, none⟩ (.int .u64 c)).setCell ⟨B2, 3, none⟩ (.int .u64 l)).setCell ⟨B2, 4, none⟩ (.bool false)) = w99 at y3 yb ⊢
        obtain ⟨o0_, o1_, o2_, o3_, o4_, -⟩ := cs_at y3
        refine bodyPost_ret (v := .tuple #[.agg #[.int .u64 0, .int .u64 n, .int .u64 c, .int .u64 l, .bool false], .bool false]) (by simp [results, Try.results46, go_sem, o0_, o1_, o2_, o3_, o4_]) rfl ⟨rfl, yb⟩
  · rw [if_neg hok]
    rw [Bool.not_eq_true] at hok
    rw [hok] at CK
    dsimp only
    clear hok
    go_enter Try.func46, Try.ntmps46
    go_wp2_with fail
    refine (CK.out _).mono ?_
    rintro e w' ⟨rfl, rfl⟩
    have hx := three_at (Below.refl (((((w.alloc (.cells #[.int .u64 tg, .int .u64 iv, .int .u64 mt] 71)).alloc (.cells #[.int .u64 f, .int .u64 n, .int .u64 c, .int .u64 l, .bool d] 73)).alloc (.cells #[.int .u64 0, .int .u64 0, .int .u64 0, .int .u64 0, .bool false] 73)).alloc (.cells #[.int .u64 tg, .int .u64 iv, .int .u64 mt] 71)).heap.size) ((((w.alloc (.cells #[.int .u64 tg, .int .u64 iv, .int .u64 mt] 71)).alloc (.cells #[.int .u64 f, .int .u64 n, .int .u64 c, .int .u64 l, .bool d] 73)).alloc (.cells #[.int .u64 0, .int .u64 0, .int .u64 0, .int .u64 0, .bool false] 73)).alloc (.cells #[.int .u64 tg, .int .u64 iv, .int .u64 mt] 71)))
    have yb : Below w.heap.size w ((((w.alloc (.cells #[.int .u64 tg, .int .u64 iv, .int .u64 mt] 71)).alloc (.cells #[.int .u64 f, .int .u64 n, .int .u64 c, .int .u64 l, .bool d] 73)).alloc (.cells #[.int .u64 0, .int .u64 0, .int .u64 0, .int .u64 0, .bool false] 73)).alloc (.cells #[.int .u64 tg, .int .u64 iv, .int .u64 mt] 71)) := by
      repeat' (first | exact Below.refl _ _ | refine Below.alloc ?_ (by simp; try omega) _)
    generalize ((((w.alloc (.cells #[.int .u64 tg, .int .u64 iv, .int .u64 mt] 71)).alloc (.cells #[.int .u64 f, .int .u64 n, .int .u64 c, .int .u64 l, .bool d] 73)).alloc (.cells #[.int .u64 0, .int .u64 0, .int .u64 0, .int .u64 0, .bool false] 73)).alloc (.cells #[.int .u64 tg, .int .u64 iv, .int .u64 mt] 71)) = w1 at hx yb ⊢
    obtain ⟨x1, x2, x3⟩ := hx
    obtain ⟨B2, hB2⟩ : ∃ B2, B2 = w.heap.size + 1 + 1 := ⟨_, rfl⟩
    obtain ⟨B1, hB1⟩ : ∃ B1, B1 = w.heap.size + 1 := ⟨_, rfl⟩
    rw [← hB2] at x3 ⊢
    rw [← hB1] at x2 ⊢
    have n12 : ¬ B1 = B2 := by omega
    have n21 : ¬ B2 = B1 := by omega
    have n01 : ¬ w.heap.size = B1 := by omega
    have n02 : ¬ w.heap.size = B2 := by omega
    have n10 : ¬ B1 = w.heap.size := by omega
    have n20 : ¬ B2 = w.heap.size := by omega
    have s1_ : w.heap.size ≤ B1 := by omega
    have s2_ : w.heap.size ≤ B2 := by omega
    clear hB1 hB2
    have HB := Lib.hid yb
    have X1 := Lib.hid x1; have X2 := Lib.hid x2; have X3 := Lib.hid x3
    clear yb x1 x2 x3
    obtain ⟨a0_, a1_, a2_⟩ := cf_at X1.out
    obtain ⟨e0_, e1_, e2_, e3_, e4_, k0_, k1_, k2_, k3_, k4_⟩ := cs_at X2.out
    obtain ⟨o0_, o1_, o2_, o3_, o4_, q0_, q1_, q2_, q3_, q4_⟩ := cs_at X3.out
    go_wp2
    (try simp only [Exit.inBlock, Exit.then])
    have y3 := five_put X3.out (.int .u64 f) (.int .u64 n) (.int .u64 c) (.int .u64 l) (.bool d)
    have yb : Below w.heap.size w (((((w1.setCell ⟨B2, 0, none⟩ (.int .u64 f)).setCell ⟨B2, 1, none⟩ (.int .u64 n)).setCell ⟨B2, 2, none⟩ (.int .u64 c)).setCell ⟨B2, 3, none⟩ (.int .u64 l)).setCell ⟨B2, 4, none⟩ (.bool d)) := by
      repeat' (first | (with_reducible exact HB.out) | refine Below.setCell ?_ s2_ _)
    clear a0_ a1_ a2_ e0_ e1_ e2_ e3_ e4_ k0_ k1_ k2_ k3_ k4_ o0_ o1_ o2_ o3_ o4_ q0_ q1_ q2_ q3_ q4_
    generalize (((((w1.setCell ⟨B2, 0, none⟩ (.int .u64 f)).setCell ⟨B2, 1, none⟩ (.int .u64 n)).setCell ⟨B2, 2, none⟩ (.int .u64 c)).setCell ⟨B2, 3, none⟩ (.int .u64 l)).setCell ⟨B2, 4, none⟩ (.bool d)) = w99 at y3 yb ⊢
    obtain ⟨o0_, o1_, o2_, o3_, o4_, -⟩ := cs_at y3
    refine bodyPost_ret (v := .tuple #[.agg #[.int .u64 f, .int .u64 n, .int .u64 c, .int .u64 l, .bool d], .bool false]) (by simp [results, Try.results46, go_sem, o0_, o1_, o2_, o3_, o4_]) rfl ⟨rfl, yb⟩
end Go.Proofs.Ytdokllignldbeaa
