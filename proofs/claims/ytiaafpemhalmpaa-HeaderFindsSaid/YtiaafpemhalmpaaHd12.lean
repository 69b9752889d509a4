/-
  Layer 33: the law on a byte that is another one, walked: true for any arguments. No condition.
-/
import Derived.Test.YtiaafpemhalmpaaHd9
namespace Go.Proofs.Ytiaafpemhalmpaa
set_option linter.unusedVariables false
set_option linter.unusedSimpArgs false
open Go.ChangeShapes Go.WideShapes Go.ChangeAt Go.RowKit
attribute [-go_sem] run_index_string binOp_string_eql binOp_string_neq run_string_add_if run_slice_string_from_if run_slice_string_to_if
attribute [local go_sem] index_at add_fits slice_from slice_to eql_str neq_str alloc_drewN setCell_drewN

theorem blk_drewN {w : World} {k n : Nat} {x : Option Obj} (h : w.heap[k]? = x) : (w.drewN n).heap[k]? = x := h
set_option maxRecDepth 100000 in
set_option maxHeartbeats 2000000 in
theorem walk_headerFinds (d : Int) (d0 : 0 ≤ d) (d1 : d ≤ 255) (i : Int) (i0 : 0 ≤ i) (i1 : i ≤ 65535) (t : Int) (t0 : 0 ≤ t) (t1 : t ≤ 255) (s : Int) (s0 : 0 ≤ s) (s1 : s ≤ 4294967295) (q : Int) (q0 : 0 ≤ q) (q1 : q ≤ 4294967295) (x : Int) (x0 : 0 ≤ x) (x1 : x ≤ 65535) (y : Int) (y0 : 0 ≤ y) (y1 : y ≤ 65535) (b : ByteArray) (hbm : b.size ≤ maxLen) (a : Int) (a0 : 0 ≤ a) (a1 : a ≤ 255) (c : Int) (c0 : 0 ≤ c) (c1 : c ≤ 255) (w : World) :
    Calls Try.prog 8 #[.agg #[.int .u8 d, .int .u16 i, .int .u8 t, .int .u32 s, .int .u32 q, .int .u16 x, .int .u16 y], .string b, .agg #[.int .u8 a, .int .u8 c]] w fun e w' => e = .returned (.bool true) ∧ Below w.heap.size w w' := by
  have LV := Lib.hid (fun W => lives33 W)
  have B0 : Below w.heap.size w w := Below.refl _ _
  by_cases hl : 5000 < b.size
  · have g : (5000 : Int) < b.size := by omega
    go_enter Try.func8, Try.ntmps8
    go_upto_region 1 with (fail)
    go_quiet (fail)
    go_wp2_with fail
    refine (LV.out _).mono ?_
    rintro e wL ⟨rfl, kbwL⟩
    have bwL : Below w.heap.size w wL := bel_call kbwL (by (repeat' (first | (with_reducible exact B0) | (with_reducible exact Below.refl _ _) | (with_reducible refine below_drewN _ ?_) | (with_reducible refine Below.drew ?_) | (with_reducible refine Below.alloc ?_ (by first | exact Nat.le_refl _ | omega | (have := B0.size; simp; omega) | (simp; done)) _) | (with_reducible refine Below.setCell ?_ (by first | exact Nat.le_refl _ | omega | (have := B0.size; simp; omega) | (simp; done)) _)))) (by first | exact Nat.le_refl _ | omega | (have := B0.size; simp; omega) | (simp; done))
    have Zh1 : wL.heap[w.heap.size]? = some (.cells #[.int .u8 d, .int .u16 i, .int .u8 t, .int .u32 s, .int .u32 q, .int .u16 x, .int .u16 y] 66 (0, 0)) := blk_call kbwL (by (repeat' (first | (with_reducible exact heap_alloc_new _ _) | (with_reducible exact blk_new (by first | (simp; done) | omega)) | (with_reducible refine blk_drew ?_) | (with_reducible refine blk_drewN ?_) | (with_reducible apply put7_2) | (with_reducible refine blk_else (by omega) ?_) | (with_reducible refine blk_old ?_))))
    obtain ⟨zh0, zh1, zh2, zh3, zh4, zh5, zh6, -⟩ := at7 Zh1
    have nh_ := ne_blk Zh1
    have mh_ := Ne.symm nh_
    have lh_ := lt_blk Zh1
    clear kbwL
    go_wp2
    go_ret
    exact ⟨rfl, bwL⟩
  · have g : ¬ (5000 : Int) < b.size := by omega
    by_cases h63 : 63 < d
    · have P1 := Lib.hid (fun W => hput_arg d i t s q x y h63 b W)
      go_enter Try.func8, Try.ntmps8
      go_upto_region 1 with (fail)
      go_quiet (fail)
      go_wp2_with fail
      refine (P1.out _).mono ?_
      rintro e wA ⟨rfl, kbwA⟩
      have bwA : Below w.heap.size w wA := bel_call kbwA (by (repeat' (first | (with_reducible exact B0) | (with_reducible exact Below.refl _ _) | (with_reducible refine below_drewN _ ?_) | (with_reducible refine Below.drew ?_) | (with_reducible refine Below.alloc ?_ (by first | exact Nat.le_refl _ | omega | (have := B0.size; simp; omega) | (simp; done)) _) | (with_reducible refine Below.setCell ?_ (by first | exact Nat.le_refl _ | omega | (have := B0.size; simp; omega) | (simp; done)) _)))) (by first | exact Nat.le_refl _ | omega | (have := B0.size; simp; omega) | (simp; done))
      have Zh1 : wA.heap[w.heap.size]? = some (.cells #[.int .u8 d, .int .u16 i, .int .u8 t, .int .u32 s, .int .u32 q, .int .u16 x, .int .u16 y] 66 (0, 0)) := blk_call kbwA (by (repeat' (first | (with_reducible exact heap_alloc_new _ _) | (with_reducible exact blk_new (by first | (simp; done) | omega)) | (with_reducible refine blk_drew ?_) | (with_reducible refine blk_drewN ?_) | (with_reducible apply put7_2) | (with_reducible refine blk_else (by omega) ?_) | (with_reducible refine blk_old ?_))))
      obtain ⟨zh0, zh1, zh2, zh3, zh4, zh5, zh6, -⟩ := at7 Zh1
      have nh_ := ne_blk Zh1
      have mh_ := Ne.symm nh_
      have lh_ := lt_blk Zh1
      clear kbwA
      go_wp2_with fail
      refine (LV.out _).mono ?_
      rintro e wL ⟨rfl, kbwL⟩
      have bwL : Below w.heap.size w wL := bel_call kbwL (by (repeat' (first | (with_reducible exact bwA) | (with_reducible exact Below.refl _ _) | (with_reducible refine below_drewN _ ?_) | (with_reducible refine Below.drew ?_) | (with_reducible refine Below.alloc ?_ (by first | exact Nat.le_refl _ | omega | (have := bwA.size; simp; omega) | (simp; done)) _) | (with_reducible refine Below.setCell ?_ (by first | exact Nat.le_refl _ | omega | (have := bwA.size; simp; omega) | (simp; done)) _)))) (by first | exact Nat.le_refl _ | omega | (have := bwA.size; simp; omega) | (simp; done))
      have Zh2 : wL.heap[w.heap.size]? = some (.cells #[.int .u8 d, .int .u16 i, .int .u8 t, .int .u32 s, .int .u32 q, .int .u16 x, .int .u16 y] 66 (0, 0)) := blk_call kbwL (by (repeat' (first | (with_reducible exact Zh1) | (with_reducible exact heap_alloc_new _ _) | (with_reducible exact blk_new (by first | (simp; done) | omega)) | (with_reducible refine blk_drew ?_) | (with_reducible refine blk_drewN ?_) | (with_reducible apply put7_2) | (with_reducible refine blk_else (by omega) ?_) | (with_reducible refine blk_old ?_))))
      clear Zh1 zh0 zh1 zh2 zh3 zh4 zh5 zh6 nh_ mh_ lh_
      obtain ⟨zh0, zh1, zh2, zh3, zh4, zh5, zh6, -⟩ := at7 Zh2
      have nh_ := ne_blk Zh2
      have mh_ := Ne.symm nh_
      have lh_ := lt_blk Zh2
      clear kbwL
      go_wp2
      go_ret
      exact ⟨rfl, bwL⟩
    · have ok : (⟨d, i, t, s, q, x, y⟩ : Hdr).ok := ⟨⟨d0, by show d ≤ 63; omega⟩, ⟨i0, i1⟩, ⟨t0, t1⟩, ⟨s0, s1⟩, ⟨q0, q1⟩, ⟨x0, x1⟩, ⟨y0, y1⟩⟩
      obtain ⟨k, hk⟩ : ∃ k : Nat, a % 20 = k := ⟨(a % 20).toNat, by omega⟩
      have hk20 : k < 20 := by omega
      have r1 : a.tmod 20 = (k : Int) := by rw [Int.tmod_eq_emod_of_nonneg a0]; exact hk
      have r2 : IntKind.u8.wrap (k : Int) = k := by rw [IntKind.wrap_u8]; omega
      have r3 : IntKind.i64.wrap (k : Int) = k := by rw [IntKind.wrap_i64]; omega
      have P1 := Lib.hid (fun W => hput_ok d i t s q x y ok b (by omega) W)
      have PS := pf_size ⟨d, i, t, s, q, x, y⟩ b
      have WT := Lib.hid (fun W => with_any (pf ⟨d, i, t, s, q, x, y⟩ b) k c (by omega) (by omega) c0 c1 W)
      have TZ : (wth (pf ⟨d, i, t, s, q, x, y⟩ b) k (UInt8.ofNat c.toNat)).size = (pf ⟨d, i, t, s, q, x, y⟩ b).size := wth_size _ _ _ (by omega)
      have T1' := Lib.hid (fun W => htake_all (wth (pf ⟨d, i, t, s, q, x, y⟩ b) k (UInt8.ofNat c.toNat)) (by omega) W)
      have K0 := (tk_put ok (b := b) (by omega)).1
      have FD := Lib.hid (fun h => finds_one K0 k hk20 (UInt8.ofNat c.toNat) h)
      clear ok hk
      generalize pf ⟨d, i, t, s, q, x, y⟩ b = D at *
      generalize wth D k (UInt8.ofNat c.toNat) = T at *
      have hk0 := Lib.hid K0
      have g2 : ¬ (D.size : Int) < 28 := by omega
      generalize tkH T = H at *
      generalize tkB T = TB at *
      obtain ⟨d_, i_, t_, s_, q_, x_, y_⟩ := H
      have T1 : Hid (∀ W, Calls Try.prog 27 #[.string T] W fun e w' => e = .returned (.tuple #[.agg #[.int .u8 d_, .int .u16 i_, .int .u8 t_, .int .u32 s_, .int .u32 q_, .int .u16 x_, .int .u16 y_], .string TB, .int .i64 (tke T)]) ∧ Below W.heap.size W w') := Lib.hid T1'.out
      clear T1' K0 PS TZ
      by_cases e : T = D
      · have e1 : decide (T = D) = true := decide_eq_true e
        have e2 : tke T = 0 := by rw [e]; exact hk0.out
        rw [e2] at T1
        clear FD e2 e
        go_enter Try.func8, Try.ntmps8
        go_upto_region 1 with (fail)
        go_quiet (fail)
        go_wp2_with fail
        refine (P1.out _).mono ?_
        rintro e wA ⟨rfl, kbwA⟩
        have bwA : Below w.heap.size w wA := bel_call kbwA (by (repeat' (first | (with_reducible exact B0) | (with_reducible exact Below.refl _ _) | (with_reducible refine below_drewN _ ?_) | (with_reducible refine Below.drew ?_) | (with_reducible refine Below.alloc ?_ (by first | exact Nat.le_refl _ | omega | (have := B0.size; simp; omega) | (simp; done)) _) | (with_reducible refine Below.setCell ?_ (by first | exact Nat.le_refl _ | omega | (have := B0.size; simp; omega) | (simp; done)) _)))) (by first | exact Nat.le_refl _ | omega | (have := B0.size; simp; omega) | (simp; done))
        have Zh1 : wA.heap[w.heap.size]? = some (.cells #[.int .u8 d, .int .u16 i, .int .u8 t, .int .u32 s, .int .u32 q, .int .u16 x, .int .u16 y] 66 (0, 0)) := blk_call kbwA (by (repeat' (first | (with_reducible exact heap_alloc_new _ _) | (with_reducible exact blk_new (by first | (simp; done) | omega)) | (with_reducible refine blk_drew ?_) | (with_reducible refine blk_drewN ?_) | (with_reducible apply put7_2) | (with_reducible refine blk_else (by omega) ?_) | (with_reducible refine blk_old ?_))))
        obtain ⟨zh0, zh1, zh2, zh3, zh4, zh5, zh6, -⟩ := at7 Zh1
        have nh_ := ne_blk Zh1
        have mh_ := Ne.symm nh_
        have lh_ := lt_blk Zh1
        clear kbwA
        go_wp2_with fail
        refine (WT.out _).mono ?_
        rintro e wB ⟨rfl, kbwB⟩
        have bwB : Below w.heap.size w wB := bel_call kbwB (by (repeat' (first | (with_reducible exact bwA) | (with_reducible exact Below.refl _ _) | (with_reducible refine below_drewN _ ?_) | (with_reducible refine Below.drew ?_) | (with_reducible refine Below.alloc ?_ (by first | exact Nat.le_refl _ | omega | (have := bwA.size; simp; omega) | (simp; done)) _) | (with_reducible refine Below.setCell ?_ (by first | exact Nat.le_refl _ | omega | (have := bwA.size; simp; omega) | (simp; done)) _)))) (by first | exact Nat.le_refl _ | omega | (have := bwA.size; simp; omega) | (simp; done))
        have Zh2 : wB.heap[w.heap.size]? = some (.cells #[.int .u8 d, .int .u16 i, .int .u8 t, .int .u32 s, .int .u32 q, .int .u16 x, .int .u16 y] 66 (0, 0)) := blk_call kbwB (by (repeat' (first | (with_reducible exact Zh1) | (with_reducible exact heap_alloc_new _ _) | (with_reducible exact blk_new (by first | (simp; done) | omega)) | (with_reducible refine blk_drew ?_) | (with_reducible refine blk_drewN ?_) | (with_reducible apply put7_2) | (with_reducible refine blk_else (by omega) ?_) | (with_reducible refine blk_old ?_))))
        clear Zh1 zh0 zh1 zh2 zh3 zh4 zh5 zh6 nh_ mh_ lh_
        obtain ⟨zh0, zh1, zh2, zh3, zh4, zh5, zh6, -⟩ := at7 Zh2
        have nh_ := ne_blk Zh2
        have mh_ := Ne.symm nh_
        have lh_ := lt_blk Zh2
        clear kbwB
        go_wp2_with fail
        refine (T1.out _).mono ?_
        rintro e wC ⟨rfl, kbwC⟩
        have bwC : Below w.heap.size w wC := bel_call kbwC (by (repeat' (first | (with_reducible exact bwB) | (with_reducible exact Below.refl _ _) | (with_reducible refine below_drewN _ ?_) | (with_reducible refine Below.drew ?_) | (with_reducible refine Below.alloc ?_ (by first | exact Nat.le_refl _ | omega | (have := bwB.size; simp; omega) | (simp; done)) _) | (with_reducible refine Below.setCell ?_ (by first | exact Nat.le_refl _ | omega | (have := bwB.size; simp; omega) | (simp; done)) _)))) (by first | exact Nat.le_refl _ | omega | (have := bwB.size; simp; omega) | (simp; done))
        have Zh3 : wC.heap[w.heap.size]? = some (.cells #[.int .u8 d, .int .u16 i, .int .u8 t, .int .u32 s, .int .u32 q, .int .u16 x, .int .u16 y] 66 (0, 0)) := blk_call kbwC (by (repeat' (first | (with_reducible exact Zh2) | (with_reducible exact heap_alloc_new _ _) | (with_reducible exact blk_new (by first | (simp; done) | omega)) | (with_reducible refine blk_drew ?_) | (with_reducible refine blk_drewN ?_) | (with_reducible apply put7_2) | (with_reducible refine blk_else (by omega) ?_) | (with_reducible refine blk_old ?_))))
        clear Zh2 zh0 zh1 zh2 zh3 zh4 zh5 zh6 nh_ mh_ lh_
        obtain ⟨zh0, zh1, zh2, zh3, zh4, zh5, zh6, -⟩ := at7 Zh3
        have nh_ := ne_blk Zh3
        have mh_ := Ne.symm nh_
        have lh_ := lt_blk Zh3
        clear kbwC
        go_wp2_with fail
        refine (LV.out _).mono ?_
        rintro e wL ⟨rfl, kbwL⟩
        have bwL : Below w.heap.size w wL := bel_call kbwL (by (repeat' (first | (with_reducible exact bwC) | (with_reducible exact Below.refl _ _) | (with_reducible refine below_drewN _ ?_) | (with_reducible refine Below.drew ?_) | (with_reducible refine Below.alloc ?_ (by first | exact Nat.le_refl _ | omega | (have := bwC.size; simp; omega) | (simp; done)) _) | (with_reducible refine Below.setCell ?_ (by first | exact Nat.le_refl _ | omega | (have := bwC.size; simp; omega) | (simp; done)) _)))) (by first | exact Nat.le_refl _ | omega | (have := bwC.size; simp; omega) | (simp; done))
        have Zh4 : wL.heap[w.heap.size]? = some (.cells #[.int .u8 d, .int .u16 i, .int .u8 t, .int .u32 s, .int .u32 q, .int .u16 x, .int .u16 y] 66 (0, 0)) := blk_call kbwL (by (repeat' (first | (with_reducible exact Zh3) | (with_reducible exact heap_alloc_new _ _) | (with_reducible exact blk_new (by first | (simp; done) | omega)) | (with_reducible refine blk_drew ?_) | (with_reducible refine blk_drewN ?_) | (with_reducible apply put7_2) | (with_reducible refine blk_else (by omega) ?_) | (with_reducible refine blk_old ?_))))
        clear Zh3 zh0 zh1 zh2 zh3 zh4 zh5 zh6 nh_ mh_ lh_
        obtain ⟨zh0, zh1, zh2, zh3, zh4, zh5, zh6, -⟩ := at7 Zh4
        have nh_ := ne_blk Zh4
        have mh_ := Ne.symm nh_
        have lh_ := lt_blk Zh4
        clear kbwL
        go_wp2
        go_ret
        exact ⟨rfl, bwL⟩
      · have e1 : decide (T = D) = false := decide_eq_false e
        have e3 := FD.out e
        have e2 : (tke T == 0) = false := by simp [e3]
        clear FD e e3
        generalize tke T = kk at *
        go_enter Try.func8, Try.ntmps8
        go_upto_region 1 with (fail)
        go_quiet (fail)
        go_wp2_with fail
        refine (P1.out _).mono ?_
        rintro e wA ⟨rfl, kbwA⟩
        have bwA : Below w.heap.size w wA := bel_call kbwA (by (repeat' (first | (with_reducible exact B0) | (with_reducible exact Below.refl _ _) | (with_reducible refine below_drewN _ ?_) | (with_reducible refine Below.drew ?_) | (with_reducible refine Below.alloc ?_ (by first | exact Nat.le_refl _ | omega | (have := B0.size; simp; omega) | (simp; done)) _) | (with_reducible refine Below.setCell ?_ (by first | exact Nat.le_refl _ | omega | (have := B0.size; simp; omega) | (simp; done)) _)))) (by first | exact Nat.le_refl _ | omega | (have := B0.size; simp; omega) | (simp; done))
        have Zh1 : wA.heap[w.heap.size]? = some (.cells #[.int .u8 d, .int .u16 i, .int .u8 t, .int .u32 s, .int .u32 q, .int .u16 x, .int .u16 y] 66 (0, 0)) := blk_call kbwA (by (repeat' (first | (with_reducible exact heap_alloc_new _ _) | (with_reducible exact blk_new (by first | (simp; done) | omega)) | (with_reducible refine blk_drew ?_) | (with_reducible refine blk_drewN ?_) | (with_reducible apply put7_2) | (with_reducible refine blk_else (by omega) ?_) | (with_reducible refine blk_old ?_))))
        obtain ⟨zh0, zh1, zh2, zh3, zh4, zh5, zh6, -⟩ := at7 Zh1
        have nh_ := ne_blk Zh1
        have mh_ := Ne.symm nh_
        have lh_ := lt_blk Zh1
        clear kbwA
        go_wp2_with fail
        refine (WT.out _).mono ?_
        rintro e wB ⟨rfl, kbwB⟩
        have bwB : Below w.heap.size w wB := bel_call kbwB (by (repeat' (first | (with_reducible exact bwA) | (with_reducible exact Below.refl _ _) | (with_reducible refine below_drewN _ ?_) | (with_reducible refine Below.drew ?_) | (with_reducible refine Below.alloc ?_ (by first | exact Nat.le_refl _ | omega | (have := bwA.size; simp; omega) | (simp; done)) _) | (with_reducible refine Below.setCell ?_ (by first | exact Nat.le_refl _ | omega | (have := bwA.size; simp; omega) | (simp; done)) _)))) (by first | exact Nat.le_refl _ | omega | (have := bwA.size; simp; omega) | (simp; done))
        have Zh2 : wB.heap[w.heap.size]? = some (.cells #[.int .u8 d, .int .u16 i, .int .u8 t, .int .u32 s, .int .u32 q, .int .u16 x, .int .u16 y] 66 (0, 0)) := blk_call kbwB (by (repeat' (first | (with_reducible exact Zh1) | (with_reducible exact heap_alloc_new _ _) | (with_reducible exact blk_new (by first | (simp; done) | omega)) | (with_reducible refine blk_drew ?_) | (with_reducible refine blk_drewN ?_) | (with_reducible apply put7_2) | (with_reducible refine blk_else (by omega) ?_) | (with_reducible refine blk_old ?_))))
        clear Zh1 zh0 zh1 zh2 zh3 zh4 zh5 zh6 nh_ mh_ lh_
        obtain ⟨zh0, zh1, zh2, zh3, zh4, zh5, zh6, -⟩ := at7 Zh2
        have nh_ := ne_blk Zh2
        have mh_ := Ne.symm nh_
        have lh_ := lt_blk Zh2
        clear kbwB
        go_wp2_with fail
        refine (T1.out _).mono ?_
        rintro e wC ⟨rfl, kbwC⟩
        have bwC : Below w.heap.size w wC := bel_call kbwC (by (repeat' (first | (with_reducible exact bwB) | (with_reducible exact Below.refl _ _) | (with_reducible refine below_drewN _ ?_) | (with_reducible refine Below.drew ?_) | (with_reducible refine Below.alloc ?_ (by first | exact Nat.le_refl _ | omega | (have := bwB.size; simp; omega) | (simp; done)) _) | (with_reducible refine Below.setCell ?_ (by first | exact Nat.le_refl _ | omega | (have := bwB.size; simp; omega) | (simp; done)) _)))) (by first | exact Nat.le_refl _ | omega | (have := bwB.size; simp; omega) | (simp; done))
        have Zh3 : wC.heap[w.heap.size]? = some (.cells #[.int .u8 d, .int .u16 i, .int .u8 t, .int .u32 s, .int .u32 q, .int .u16 x, .int .u16 y] 66 (0, 0)) := blk_call kbwC (by (repeat' (first | (with_reducible exact Zh2) | (with_reducible exact heap_alloc_new _ _) | (with_reducible exact blk_new (by first | (simp; done) | omega)) | (with_reducible refine blk_drew ?_) | (with_reducible refine blk_drewN ?_) | (with_reducible apply put7_2) | (with_reducible refine blk_else (by omega) ?_) | (with_reducible refine blk_old ?_))))
        clear Zh2 zh0 zh1 zh2 zh3 zh4 zh5 zh6 nh_ mh_ lh_
        obtain ⟨zh0, zh1, zh2, zh3, zh4, zh5, zh6, -⟩ := at7 Zh3
        have nh_ := ne_blk Zh3
        have mh_ := Ne.symm nh_
        have lh_ := lt_blk Zh3
        clear kbwC
        go_wp2_with fail
        refine (LV.out _).mono ?_
        rintro e wL ⟨rfl, kbwL⟩
        have bwL : Below w.heap.size w wL := bel_call kbwL (by (repeat' (first | (with_reducible exact bwC) | (with_reducible exact Below.refl _ _) | (with_reducible refine below_drewN _ ?_) | (with_reducible refine Below.drew ?_) | (with_reducible refine Below.alloc ?_ (by first | exact Nat.le_refl _ | omega | (have := bwC.size; simp; omega) | (simp; done)) _) | (with_reducible refine Below.setCell ?_ (by first | exact Nat.le_refl _ | omega | (have := bwC.size; simp; omega) | (simp; done)) _)))) (by first | exact Nat.le_refl _ | omega | (have := bwC.size; simp; omega) | (simp; done))
        have Zh4 : wL.heap[w.heap.size]? = some (.cells #[.int .u8 d, .int .u16 i, .int .u8 t, .int .u32 s, .int .u32 q, .int .u16 x, .int .u16 y] 66 (0, 0)) := blk_call kbwL (by (repeat' (first | (with_reducible exact Zh3) | (with_reducible exact heap_alloc_new _ _) | (with_reducible exact blk_new (by first | (simp; done) | omega)) | (with_reducible refine blk_drew ?_) | (with_reducible refine blk_drewN ?_) | (with_reducible apply put7_2) | (with_reducible refine blk_else (by omega) ?_) | (with_reducible refine blk_old ?_))))
        clear Zh3 zh0 zh1 zh2 zh3 zh4 zh5 zh6 nh_ mh_ lh_
        obtain ⟨zh0, zh1, zh2, zh3, zh4, zh5, zh6, -⟩ := at7 Zh4
        have nh_ := ne_blk Zh4
        have mh_ := Ne.symm nh_
        have lh_ := lt_blk Zh4
        clear kbwL
        go_wp2
        go_ret
        exact ⟨rfl, bwL⟩
end Go.Proofs.Ytiaafpemhalmpaa
