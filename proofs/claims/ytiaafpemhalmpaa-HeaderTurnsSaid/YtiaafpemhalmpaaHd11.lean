/-
  Layer 33: the law on what is marked and what is hopped, walked: true for any arguments. No condition.
-/
import Derived.Test.YtiaafpemhalmpaaHd9
namespace Go.Proofs.Ytiaafpemhalmpaa
set_option linter.unusedVariables false
set_option linter.unusedSimpArgs false
open Go.ChangeShapes Go.WideShapes Go.ChangeAt Go.RowKit
attribute [-go_sem] run_index_string binOp_string_eql binOp_string_neq run_string_add_if run_slice_string_from_if run_slice_string_to_if
attribute [local go_sem] index_at add_fits slice_from slice_to eql_str neq_str alloc_drewN setCell_drewN

theorem put7_2 {w : World} {b : Nat} {v0 v1 v2 v3 v4 v5 v6 u : Value} {t : TypeId} (h : w.heap[b]? = some (.cells #[v0, v1, v2, v3, v4, v5, v6] t (0, 0))) : (w.setCell ⟨b, 2, none⟩ u).heap[b]? = some (.cells #[v0, v1, u, v3, v4, v5, v6] t (0, 0)) := blk_set h rfl
set_option maxRecDepth 100000 in
set_option maxHeartbeats 2000000 in
theorem walk_headerTurns (d : Int) (d0 : 0 ≤ d) (d1 : d ≤ 255) (i : Int) (i0 : 0 ≤ i) (i1 : i ≤ 65535) (t : Int) (t0 : 0 ≤ t) (t1 : t ≤ 255) (s : Int) (s0 : 0 ≤ s) (s1 : s ≤ 4294967295) (q : Int) (q0 : 0 ≤ q) (q1 : q ≤ 4294967295) (x : Int) (x0 : 0 ≤ x) (x1 : x ≤ 65535) (y : Int) (y0 : 0 ≤ y) (y1 : y ≤ 65535) (b : ByteArray) (hbm : b.size ≤ maxLen) (p : Int) (p0 : 0 ≤ p) (p1 : p ≤ 255) (w : World) :
    Calls Try.prog 7 #[.agg #[.int .u8 d, .int .u16 i, .int .u8 t, .int .u32 s, .int .u32 q, .int .u16 x, .int .u16 y], .string b, .int .u8 p] w fun e w' => e = .returned (.bool true) ∧ Below w.heap.size w w' := by
  have LV := Lib.hid (fun W => lives33 W)
  have B0 : Below w.heap.size w w := Below.refl _ _
  by_cases hl : 5000 < b.size
  · have g : (5000 : Int) < b.size := by omega
    go_enter Try.func7, Try.ntmps7
    go_wp2_with fail
    refine (LV.out _).mono ?_
    rintro e wL ⟨rfl, kbwL⟩
    have bwL : Below w.heap.size w wL := bel_call kbwL (by (repeat' (first | (with_reducible exact B0) | (with_reducible exact Below.refl _ _) | (with_reducible refine below_drewN _ ?_) | (with_reducible refine Below.drew ?_) | (with_reducible refine Below.alloc ?_ (by first | exact Nat.le_refl _ | omega | (have := B0.size; simp; omega) | (simp; done)) _) | (with_reducible refine Below.setCell ?_ (by first | exact Nat.le_refl _ | omega | (have := B0.size; simp; omega) | (simp; done)) _)))) (by first | exact Nat.le_refl _ | omega | (have := B0.size; simp; omega) | (simp; done))
    have Zh1 : wL.heap[w.heap.size]? = some (.cells #[.int .u8 d, .int .u16 i, .int .u8 t, .int .u32 s, .int .u32 q, .int .u16 x, .int .u16 y] 66 (0, 0)) := blk_call kbwL (by (repeat' (first | (with_reducible exact heap_alloc_new _ _) | (with_reducible exact blk_new (by first | (simp; done) | omega)) | (with_reducible refine blk_drew ?_) | (with_reducible apply put7_2) | (with_reducible refine blk_else (by omega) ?_) | (with_reducible refine blk_old ?_))))
    obtain ⟨zh0, zh1, zh2, zh3, zh4, zh5, zh6, -⟩ := at7 Zh1
    have nh_ := ne_blk Zh1
    have mh_ := Ne.symm nh_
    have lh_ := lt_blk Zh1
    clear kbwL
    go_wp2
    go_ret
    exact ⟨rfl, bwL⟩
  · have g : ¬ (5000 : Int) < b.size := by omega
    by_cases h63 : 63 < d
    · have P1 := Lib.hid (fun W => hput_arg d i t s q x y h63 b W)
      go_enter Try.func7, Try.ntmps7
      go_wp2_with fail
      refine (P1.out _).mono ?_
      rintro e wA ⟨rfl, kbwA⟩
      have bwA : Below w.heap.size w wA := bel_call kbwA (by (repeat' (first | (with_reducible exact B0) | (with_reducible exact Below.refl _ _) | (with_reducible refine below_drewN _ ?_) | (with_reducible refine Below.drew ?_) | (with_reducible refine Below.alloc ?_ (by first | exact Nat.le_refl _ | omega | (have := B0.size; simp; omega) | (simp; done)) _) | (with_reducible refine Below.setCell ?_ (by first | exact Nat.le_refl _ | omega | (have := B0.size; simp; omega) | (simp; done)) _)))) (by first | exact Nat.le_refl _ | omega | (have := B0.size; simp; omega) | (simp; done))
      have Zh1 : wA.heap[w.heap.size]? = some (.cells #[.int .u8 d, .int .u16 i, .int .u8 t, .int .u32 s, .int .u32 q, .int .u16 x, .int .u16 y] 66 (0, 0)) := blk_call kbwA (by (repeat' (first | (with_reducible exact heap_alloc_new _ _) | (with_reducible exact blk_new (by first | (simp; done) | omega)) | (with_reducible refine blk_drew ?_) | (with_reducible apply put7_2) | (with_reducible refine blk_else (by omega) ?_) | (with_reducible refine blk_old ?_))))
      obtain ⟨zh0, zh1, zh2, zh3, zh4, zh5, zh6, -⟩ := at7 Zh1
      have nh_ := ne_blk Zh1
      have mh_ := Ne.symm nh_
      have lh_ := lt_blk Zh1
      clear kbwA
      go_wp2_with fail
      refine (LV.out _).mono ?_
      rintro e wL ⟨rfl, kbwL⟩
      have bwL : Below w.heap.size w wL := bel_call kbwL (by (repeat' (first | (with_reducible exact bwA) | (with_reducible exact Below.refl _ _) | (with_reducible refine below_drewN _ ?_) | (with_reducible refine Below.drew ?_) | (with_reducible refine Below.alloc ?_ (by first | exact Nat.le_refl _ | omega | (have := bwA.size; simp; omega) | (simp; done)) _) | (with_reducible refine Below.setCell ?_ (by first | exact Nat.le_refl _ | omega | (have := bwA.size; simp; omega) | (simp; done)) _)))) (by first | exact Nat.le_refl _ | omega | (have := bwA.size; simp; omega) | (simp; done))
      have Zh2 : wL.heap[w.heap.size]? = some (.cells #[.int .u8 d, .int .u16 i, .int .u8 t, .int .u32 s, .int .u32 q, .int .u16 x, .int .u16 y] 66 (0, 0)) := blk_call kbwL (by (repeat' (first | (with_reducible exact Zh1) | (with_reducible exact heap_alloc_new _ _) | (with_reducible exact blk_new (by first | (simp; done) | omega)) | (with_reducible refine blk_drew ?_) | (with_reducible apply put7_2) | (with_reducible refine blk_else (by omega) ?_) | (with_reducible refine blk_old ?_))))
      clear Zh1 zh0 zh1 zh2 zh3 zh4 zh5 zh6 nh_ mh_ lh_
      obtain ⟨zh0, zh1, zh2, zh3, zh4, zh5, zh6, -⟩ := at7 Zh2
      have nh_ := ne_blk Zh2
      have mh_ := Ne.symm nh_
      have lh_ := lt_blk Zh2
      clear kbwL
      go_wp2
      go_ret
      exact ⟨rfl, bwL⟩
    · have ok : (⟨d, i, t, s, q, x, y⟩ : Hdr).ok := ⟨⟨d0, by show d ≤ 63; omega⟩, ⟨i0, i1⟩, ⟨t0, t1⟩, ⟨s0, s1⟩, ⟨q0, q1⟩, ⟨x0, x1⟩, ⟨y0, y1⟩⟩
      obtain ⟨p2, hp2⟩ : ∃ z, p % 64 = z := ⟨_, rfl⟩
      have q0_ : 0 ≤ p2 ∧ p2 ≤ 63 := by omega
      have r1 : p.tmod 64 = p2 := by rw [Int.tmod_eq_emod_of_nonneg p0]; exact hp2
      have r2 : IntKind.u8.wrap p2 = p2 := by rw [IntKind.wrap_u8]; omega
      have ok2 : (⟨p2, i, t, s, q, x, y⟩ : Hdr).ok := ⟨q0_, ⟨i0, i1⟩, ⟨t0, t1⟩, ⟨s0, s1⟩, ⟨q0, q1⟩, ⟨x0, x1⟩, ⟨y0, y1⟩⟩
      have P1 := Lib.hid (fun W => hput_ok d i t s q x y ok b (by omega) W)
      have P2 := Lib.hid (fun W => hput_ok p2 i t s q x y ok2 b (by omega) W)
      have M1 := Lib.hid (fun W => hmark_any (pf ⟨d, i, t, s, q, x, y⟩ b) (by rw [pf_size]; omega) p2 q0_.1 (by omega) W)
      obtain ⟨m1, m2⟩ := mark_put ok (b := b) (by omega) p2 q0_.2
      dsimp only at m2
      rw [m1, m2] at M1
      have H1 := Lib.hid (fun W => hhop_any (pf ⟨p2, i, t, s, q, x, y⟩ b) (by rw [pf_size]; omega) W)
      obtain ⟨n1, n2⟩ := hop_put ok2 (b := b) (by omega)
      dsimp only at n1 n2
      rw [n1, n2] at H1
      clear m1 m2 n1 n2 hp2
      by_cases ht : t ≤ 1
      · rw [if_pos ht, if_pos ht] at H1
        have g1 : t < 2 := by omega
        clear ht ok ok2
        generalize pf ⟨d, i, t, s, q, x, y⟩ b = D at *
        generalize pf ⟨p2, i, t, s, q, x, y⟩ b = D2 at *
        go_enter Try.func7, Try.ntmps7
        go_wp2_with fail
        refine (P1.out _).mono ?_
        rintro e wA ⟨rfl, kbwA⟩
        have bwA : Below w.heap.size w wA := bel_call kbwA (by (repeat' (first | (with_reducible exact B0) | (with_reducible exact Below.refl _ _) | (with_reducible refine below_drewN _ ?_) | (with_reducible refine Below.drew ?_) | (with_reducible refine Below.alloc ?_ (by first | exact Nat.le_refl _ | omega | (have := B0.size; simp; omega) | (simp; done)) _) | (with_reducible refine Below.setCell ?_ (by first | exact Nat.le_refl _ | omega | (have := B0.size; simp; omega) | (simp; done)) _)))) (by first | exact Nat.le_refl _ | omega | (have := B0.size; simp; omega) | (simp; done))
        have Zh1 : wA.heap[w.heap.size]? = some (.cells #[.int .u8 d, .int .u16 i, .int .u8 t, .int .u32 s, .int .u32 q, .int .u16 x, .int .u16 y] 66 (0, 0)) := blk_call kbwA (by (repeat' (first | (with_reducible exact heap_alloc_new _ _) | (with_reducible exact blk_new (by first | (simp; done) | omega)) | (with_reducible refine blk_drew ?_) | (with_reducible apply put7_2) | (with_reducible refine blk_else (by omega) ?_) | (with_reducible refine blk_old ?_))))
        obtain ⟨zh0, zh1, zh2, zh3, zh4, zh5, zh6, -⟩ := at7 Zh1
        have nh_ := ne_blk Zh1
        have mh_ := Ne.symm nh_
        have lh_ := lt_blk Zh1
        clear kbwA
        have sA_ : w.heap.size < wA.heap.size := lt_blk Zh1
        go_wp2_with fail
        refine (P2.out _).mono ?_
        rintro e wB ⟨rfl, kbwB⟩
        have bwB : Below w.heap.size w wB := bel_call kbwB (by (repeat' (first | (with_reducible exact bwA) | (with_reducible exact Below.refl _ _) | (with_reducible refine below_drewN _ ?_) | (with_reducible refine Below.drew ?_) | (with_reducible refine Below.alloc ?_ (by first | exact Nat.le_refl _ | omega | (have := bwA.size; simp; omega) | (simp; done)) _) | (with_reducible refine Below.setCell ?_ (by first | exact Nat.le_refl _ | omega | (have := bwA.size; simp; omega) | (simp; done)) _)))) (by first | exact Nat.le_refl _ | omega | (have := bwA.size; simp; omega) | (simp; done))
        have Zh2 : wB.heap[w.heap.size]? = some (.cells #[.int .u8 d, .int .u16 i, .int .u8 t, .int .u32 s, .int .u32 q, .int .u16 x, .int .u16 y] 66 (0, 0)) := blk_call kbwB (by (repeat' (first | (with_reducible exact Zh1) | (with_reducible exact heap_alloc_new _ _) | (with_reducible exact blk_new (by first | (simp; done) | omega)) | (with_reducible refine blk_drew ?_) | (with_reducible apply put7_2) | (with_reducible refine blk_else (by omega) ?_) | (with_reducible refine blk_old ?_))))
        have Zg2 : wB.heap[wA.heap.size]? = some (.cells #[.int .u8 p2, .int .u16 i, .int .u8 t, .int .u32 s, .int .u32 q, .int .u16 x, .int .u16 y] 66 (0, 0)) := blk_call kbwB (by (repeat' (first | (with_reducible exact heap_alloc_new _ _) | (with_reducible exact blk_new (by first | (simp; done) | omega)) | (with_reducible refine blk_drew ?_) | (with_reducible apply put7_2) | (with_reducible refine blk_else (by omega) ?_) | (with_reducible refine blk_old ?_))))
        clear Zh1 zh0 zh1 zh2 zh3 zh4 zh5 zh6 nh_ mh_ lh_
        obtain ⟨zh0, zh1, zh2, zh3, zh4, zh5, zh6, -⟩ := at7 Zh2
        have nh_ := ne_blk Zh2
        have mh_ := Ne.symm nh_
        have lh_ := lt_blk Zh2
        obtain ⟨zg0, zg1, zg2, zg3, zg4, zg5, zg6, fg0, fg1, fg2, fg3, fg4, fg5, fg6⟩ := at7 Zg2
        have ng_ := ne_blk Zg2
        have mg_ := Ne.symm ng_
        have lg_ := lt_blk Zg2
        clear kbwB
        go_wp2_with fail
        refine (M1.out _).mono ?_
        rintro e wC ⟨rfl, kbwC⟩
        have bwC : Below w.heap.size w wC := bel_call kbwC (by (repeat' (first | (with_reducible exact bwB) | (with_reducible exact Below.refl _ _) | (with_reducible refine below_drewN _ ?_) | (with_reducible refine Below.drew ?_) | (with_reducible refine Below.alloc ?_ (by first | exact Nat.le_refl _ | omega | (have := bwB.size; simp; omega) | (simp; done)) _) | (with_reducible refine Below.setCell ?_ (by first | exact Nat.le_refl _ | omega | (have := bwB.size; simp; omega) | (simp; done)) _)))) (by first | exact Nat.le_refl _ | omega | (have := bwB.size; simp; omega) | (simp; done))
        have Zh3 : wC.heap[w.heap.size]? = some (.cells #[.int .u8 d, .int .u16 i, .int .u8 t, .int .u32 s, .int .u32 q, .int .u16 x, .int .u16 y] 66 (0, 0)) := blk_call kbwC (by (repeat' (first | (with_reducible exact Zh2) | (with_reducible exact heap_alloc_new _ _) | (with_reducible exact blk_new (by first | (simp; done) | omega)) | (with_reducible refine blk_drew ?_) | (with_reducible apply put7_2) | (with_reducible refine blk_else (by omega) ?_) | (with_reducible refine blk_old ?_))))
        have Zg3 : wC.heap[wA.heap.size]? = some (.cells #[.int .u8 p2, .int .u16 i, .int .u8 t, .int .u32 s, .int .u32 q, .int .u16 x, .int .u16 y] 66 (0, 0)) := blk_call kbwC (by (repeat' (first | (with_reducible exact Zg2) | (with_reducible exact heap_alloc_new _ _) | (with_reducible exact blk_new (by first | (simp; done) | omega)) | (with_reducible refine blk_drew ?_) | (with_reducible apply put7_2) | (with_reducible refine blk_else (by omega) ?_) | (with_reducible refine blk_old ?_))))
        clear Zh2 zh0 zh1 zh2 zh3 zh4 zh5 zh6 nh_ mh_ lh_ Zg2 zg0 zg1 zg2 zg3 zg4 zg5 zg6 ng_ mg_ lg_ fg0 fg1 fg2 fg3 fg4 fg5 fg6
        obtain ⟨zh0, zh1, zh2, zh3, zh4, zh5, zh6, -⟩ := at7 Zh3
        have nh_ := ne_blk Zh3
        have mh_ := Ne.symm nh_
        have lh_ := lt_blk Zh3
        obtain ⟨zg0, zg1, zg2, zg3, zg4, zg5, zg6, fg0, fg1, fg2, fg3, fg4, fg5, fg6⟩ := at7 Zg3
        have ng_ := ne_blk Zg3
        have mg_ := Ne.symm ng_
        have lg_ := lt_blk Zg3
        clear kbwC
        go_wp2_with fail
        refine (H1.out _).mono ?_
        rintro e wD ⟨rfl, kbwD⟩
        have bwD : Below w.heap.size w wD := bel_call kbwD (by (repeat' (first | (with_reducible exact bwC) | (with_reducible exact Below.refl _ _) | (with_reducible refine below_drewN _ ?_) | (with_reducible refine Below.drew ?_) | (with_reducible refine Below.alloc ?_ (by first | exact Nat.le_refl _ | omega | (have := bwC.size; simp; omega) | (simp; done)) _) | (with_reducible refine Below.setCell ?_ (by first | exact Nat.le_refl _ | omega | (have := bwC.size; simp; omega) | (simp; done)) _)))) (by first | exact Nat.le_refl _ | omega | (have := bwC.size; simp; omega) | (simp; done))
        have Zh4 : wD.heap[w.heap.size]? = some (.cells #[.int .u8 d, .int .u16 i, .int .u8 t, .int .u32 s, .int .u32 q, .int .u16 x, .int .u16 y] 66 (0, 0)) := blk_call kbwD (by (repeat' (first | (with_reducible exact Zh3) | (with_reducible exact heap_alloc_new _ _) | (with_reducible exact blk_new (by first | (simp; done) | omega)) | (with_reducible refine blk_drew ?_) | (with_reducible apply put7_2) | (with_reducible refine blk_else (by omega) ?_) | (with_reducible refine blk_old ?_))))
        have Zg4 : wD.heap[wA.heap.size]? = some (.cells #[.int .u8 p2, .int .u16 i, .int .u8 t, .int .u32 s, .int .u32 q, .int .u16 x, .int .u16 y] 66 (0, 0)) := blk_call kbwD (by (repeat' (first | (with_reducible exact Zg3) | (with_reducible exact heap_alloc_new _ _) | (with_reducible exact blk_new (by first | (simp; done) | omega)) | (with_reducible refine blk_drew ?_) | (with_reducible apply put7_2) | (with_reducible refine blk_else (by omega) ?_) | (with_reducible refine blk_old ?_))))
        clear Zh3 zh0 zh1 zh2 zh3 zh4 zh5 zh6 nh_ mh_ lh_ Zg3 zg0 zg1 zg2 zg3 zg4 zg5 zg6 ng_ mg_ lg_ fg0 fg1 fg2 fg3 fg4 fg5 fg6
        obtain ⟨zh0, zh1, zh2, zh3, zh4, zh5, zh6, -⟩ := at7 Zh4
        have nh_ := ne_blk Zh4
        have mh_ := Ne.symm nh_
        have lh_ := lt_blk Zh4
        obtain ⟨zg0, zg1, zg2, zg3, zg4, zg5, zg6, fg0, fg1, fg2, fg3, fg4, fg5, fg6⟩ := at7 Zg4
        have ng_ := ne_blk Zg4
        have mg_ := Ne.symm ng_
        have lg_ := lt_blk Zg4
        clear kbwD
        go_wp2_with fail
        refine (LV.out _).mono ?_
        rintro e wL ⟨rfl, kbwL⟩
        have bwL : Below w.heap.size w wL := bel_call kbwL (by (repeat' (first | (with_reducible exact bwD) | (with_reducible exact Below.refl _ _) | (with_reducible refine below_drewN _ ?_) | (with_reducible refine Below.drew ?_) | (with_reducible refine Below.alloc ?_ (by first | exact Nat.le_refl _ | omega | (have := bwD.size; simp; omega) | (simp; done)) _) | (with_reducible refine Below.setCell ?_ (by first | exact Nat.le_refl _ | omega | (have := bwD.size; simp; omega) | (simp; done)) _)))) (by first | exact Nat.le_refl _ | omega | (have := bwD.size; simp; omega) | (simp; done))
        have Zh5 : wL.heap[w.heap.size]? = some (.cells #[.int .u8 d, .int .u16 i, .int .u8 t, .int .u32 s, .int .u32 q, .int .u16 x, .int .u16 y] 66 (0, 0)) := blk_call kbwL (by (repeat' (first | (with_reducible exact Zh4) | (with_reducible exact heap_alloc_new _ _) | (with_reducible exact blk_new (by first | (simp; done) | omega)) | (with_reducible refine blk_drew ?_) | (with_reducible apply put7_2) | (with_reducible refine blk_else (by omega) ?_) | (with_reducible refine blk_old ?_))))
        have Zg5 : wL.heap[wA.heap.size]? = some (.cells #[.int .u8 p2, .int .u16 i, .int .u8 t, .int .u32 s, .int .u32 q, .int .u16 x, .int .u16 y] 66 (0, 0)) := blk_call kbwL (by (repeat' (first | (with_reducible exact Zg4) | (with_reducible exact heap_alloc_new _ _) | (with_reducible exact blk_new (by first | (simp; done) | omega)) | (with_reducible refine blk_drew ?_) | (with_reducible apply put7_2) | (with_reducible refine blk_else (by omega) ?_) | (with_reducible refine blk_old ?_))))
        clear Zh4 zh0 zh1 zh2 zh3 zh4 zh5 zh6 nh_ mh_ lh_ Zg4 zg0 zg1 zg2 zg3 zg4 zg5 zg6 ng_ mg_ lg_ fg0 fg1 fg2 fg3 fg4 fg5 fg6
        obtain ⟨zh0, zh1, zh2, zh3, zh4, zh5, zh6, -⟩ := at7 Zh5
        have nh_ := ne_blk Zh5
        have mh_ := Ne.symm nh_
        have lh_ := lt_blk Zh5
        obtain ⟨zg0, zg1, zg2, zg3, zg4, zg5, zg6, fg0, fg1, fg2, fg3, fg4, fg5, fg6⟩ := at7 Zg5
        have ng_ := ne_blk Zg5
        have mg_ := Ne.symm ng_
        have lg_ := lt_blk Zg5
        clear kbwL
        go_wp2
        go_ret
        exact ⟨rfl, bwL⟩
      · rw [if_neg ht, if_neg ht] at H1
        have g1 : ¬ t < 2 := by omega
        have r3 : IntKind.u8.wrap (t - 1) = t - 1 := by rw [IntKind.wrap_u8]; omega
        have ok3 : (⟨p2, i, t - 1, s, q, x, y⟩ : Hdr).ok := ⟨q0_, ⟨i0, i1⟩, ⟨by show 0 ≤ t - 1; omega, by show t - 1 ≤ 255; omega⟩, ⟨s0, s1⟩, ⟨q0, q1⟩, ⟨x0, x1⟩, ⟨y0, y1⟩⟩
        have ok4 : (⟨d, i, t - 1, s, q, x, y⟩ : Hdr).ok := ⟨⟨d0, by show d ≤ 63; omega⟩, ⟨i0, i1⟩, ⟨by show 0 ≤ t - 1; omega, by show t - 1 ≤ 255; omega⟩, ⟨s0, s1⟩, ⟨q0, q1⟩, ⟨x0, x1⟩, ⟨y0, y1⟩⟩
        have P3 := Lib.hid (fun W => hput_ok p2 i (t - 1) s q x y ok3 b (by omega) W)
        have H2 := Lib.hid (fun W => hhop_any (pf ⟨d, i, t, s, q, x, y⟩ b) (by rw [pf_size]; omega) W)
        obtain ⟨n1, n2⟩ := hop_put ok (b := b) (by omega)
        dsimp only at n1 n2
        rw [n1, n2, if_neg ht, if_neg ht] at H2
        have M2 := Lib.hid (fun W => hmark_any (pf ⟨d, i, t - 1, s, q, x, y⟩ b) (by rw [pf_size]; omega) p2 q0_.1 (by omega) W)
        obtain ⟨m1, m2⟩ := mark_put ok4 (b := b) (by omega) p2 q0_.2
        dsimp only at m2
        rw [m1, m2] at M2
        clear ht ok ok2 ok3 ok4 n1 n2 m1 m2
        generalize pf ⟨d, i, t, s, q, x, y⟩ b = D at *
        generalize pf ⟨p2, i, t, s, q, x, y⟩ b = D2 at *
        generalize pf ⟨d, i, t - 1, s, q, x, y⟩ b = D3 at *
        generalize pf ⟨p2, i, t - 1, s, q, x, y⟩ b = D4 at *
        go_enter Try.func7, Try.ntmps7
        go_wp2_with fail
        refine (P1.out _).mono ?_
        rintro e wA ⟨rfl, kbwA⟩
        have bwA : Below w.heap.size w wA := bel_call kbwA (by (repeat' (first | (with_reducible exact B0) | (with_reducible exact Below.refl _ _) | (with_reducible refine below_drewN _ ?_) | (with_reducible refine Below.drew ?_) | (with_reducible refine Below.alloc ?_ (by first | exact Nat.le_refl _ | omega | (have := B0.size; simp; omega) | (simp; done)) _) | (with_reducible refine Below.setCell ?_ (by first | exact Nat.le_refl _ | omega | (have := B0.size; simp; omega) | (simp; done)) _)))) (by first | exact Nat.le_refl _ | omega | (have := B0.size; simp; omega) | (simp; done))
        have Zh1 : wA.heap[w.heap.size]? = some (.cells #[.int .u8 d, .int .u16 i, .int .u8 t, .int .u32 s, .int .u32 q, .int .u16 x, .int .u16 y] 66 (0, 0)) := blk_call kbwA (by (repeat' (first | (with_reducible exact heap_alloc_new _ _) | (with_reducible exact blk_new (by first | (simp; done) | omega)) | (with_reducible refine blk_drew ?_) | (with_reducible apply put7_2) | (with_reducible refine blk_else (by omega) ?_) | (with_reducible refine blk_old ?_))))
        obtain ⟨zh0, zh1, zh2, zh3, zh4, zh5, zh6, -⟩ := at7 Zh1
        have nh_ := ne_blk Zh1
        have mh_ := Ne.symm nh_
        have lh_ := lt_blk Zh1
        clear kbwA
        have sA_ : w.heap.size < wA.heap.size := lt_blk Zh1
        go_wp2_with fail
        refine (P2.out _).mono ?_
        rintro e wB ⟨rfl, kbwB⟩
        have bwB : Below w.heap.size w wB := bel_call kbwB (by (repeat' (first | (with_reducible exact bwA) | (with_reducible exact Below.refl _ _) | (with_reducible refine below_drewN _ ?_) | (with_reducible refine Below.drew ?_) | (with_reducible refine Below.alloc ?_ (by first | exact Nat.le_refl _ | omega | (have := bwA.size; simp; omega) | (simp; done)) _) | (with_reducible refine Below.setCell ?_ (by first | exact Nat.le_refl _ | omega | (have := bwA.size; simp; omega) | (simp; done)) _)))) (by first | exact Nat.le_refl _ | omega | (have := bwA.size; simp; omega) | (simp; done))
        have Zh2 : wB.heap[w.heap.size]? = some (.cells #[.int .u8 d, .int .u16 i, .int .u8 t, .int .u32 s, .int .u32 q, .int .u16 x, .int .u16 y] 66 (0, 0)) := blk_call kbwB (by (repeat' (first | (with_reducible exact Zh1) | (with_reducible exact heap_alloc_new _ _) | (with_reducible exact blk_new (by first | (simp; done) | omega)) | (with_reducible refine blk_drew ?_) | (with_reducible apply put7_2) | (with_reducible refine blk_else (by omega) ?_) | (with_reducible refine blk_old ?_))))
        have Zg2 : wB.heap[wA.heap.size]? = some (.cells #[.int .u8 p2, .int .u16 i, .int .u8 t, .int .u32 s, .int .u32 q, .int .u16 x, .int .u16 y] 66 (0, 0)) := blk_call kbwB (by (repeat' (first | (with_reducible exact heap_alloc_new _ _) | (with_reducible exact blk_new (by first | (simp; done) | omega)) | (with_reducible refine blk_drew ?_) | (with_reducible apply put7_2) | (with_reducible refine blk_else (by omega) ?_) | (with_reducible refine blk_old ?_))))
        clear Zh1 zh0 zh1 zh2 zh3 zh4 zh5 zh6 nh_ mh_ lh_
        obtain ⟨zh0, zh1, zh2, zh3, zh4, zh5, zh6, -⟩ := at7 Zh2
        have nh_ := ne_blk Zh2
        have mh_ := Ne.symm nh_
        have lh_ := lt_blk Zh2
        obtain ⟨zg0, zg1, zg2, zg3, zg4, zg5, zg6, fg0, fg1, fg2, fg3, fg4, fg5, fg6⟩ := at7 Zg2
        have ng_ := ne_blk Zg2
        have mg_ := Ne.symm ng_
        have lg_ := lt_blk Zg2
        clear kbwB
        go_wp2_with fail
        refine (M1.out _).mono ?_
        rintro e wC ⟨rfl, kbwC⟩
        have bwC : Below w.heap.size w wC := bel_call kbwC (by (repeat' (first | (with_reducible exact bwB) | (with_reducible exact Below.refl _ _) | (with_reducible refine below_drewN _ ?_) | (with_reducible refine Below.drew ?_) | (with_reducible refine Below.alloc ?_ (by first | exact Nat.le_refl _ | omega | (have := bwB.size; simp; omega) | (simp; done)) _) | (with_reducible refine Below.setCell ?_ (by first | exact Nat.le_refl _ | omega | (have := bwB.size; simp; omega) | (simp; done)) _)))) (by first | exact Nat.le_refl _ | omega | (have := bwB.size; simp; omega) | (simp; done))
        have Zh3 : wC.heap[w.heap.size]? = some (.cells #[.int .u8 d, .int .u16 i, .int .u8 t, .int .u32 s, .int .u32 q, .int .u16 x, .int .u16 y] 66 (0, 0)) := blk_call kbwC (by (repeat' (first | (with_reducible exact Zh2) | (with_reducible exact heap_alloc_new _ _) | (with_reducible exact blk_new (by first | (simp; done) | omega)) | (with_reducible refine blk_drew ?_) | (with_reducible apply put7_2) | (with_reducible refine blk_else (by omega) ?_) | (with_reducible refine blk_old ?_))))
        have Zg3 : wC.heap[wA.heap.size]? = some (.cells #[.int .u8 p2, .int .u16 i, .int .u8 t, .int .u32 s, .int .u32 q, .int .u16 x, .int .u16 y] 66 (0, 0)) := blk_call kbwC (by (repeat' (first | (with_reducible exact Zg2) | (with_reducible exact heap_alloc_new _ _) | (with_reducible exact blk_new (by first | (simp; done) | omega)) | (with_reducible refine blk_drew ?_) | (with_reducible apply put7_2) | (with_reducible refine blk_else (by omega) ?_) | (with_reducible refine blk_old ?_))))
        clear Zh2 zh0 zh1 zh2 zh3 zh4 zh5 zh6 nh_ mh_ lh_ Zg2 zg0 zg1 zg2 zg3 zg4 zg5 zg6 ng_ mg_ lg_ fg0 fg1 fg2 fg3 fg4 fg5 fg6
        obtain ⟨zh0, zh1, zh2, zh3, zh4, zh5, zh6, -⟩ := at7 Zh3
        have nh_ := ne_blk Zh3
        have mh_ := Ne.symm nh_
        have lh_ := lt_blk Zh3
        obtain ⟨zg0, zg1, zg2, zg3, zg4, zg5, zg6, fg0, fg1, fg2, fg3, fg4, fg5, fg6⟩ := at7 Zg3
        have ng_ := ne_blk Zg3
        have mg_ := Ne.symm ng_
        have lg_ := lt_blk Zg3
        clear kbwC
        go_wp2_with fail
        refine (H1.out _).mono ?_
        rintro e wD ⟨rfl, kbwD⟩
        have bwD : Below w.heap.size w wD := bel_call kbwD (by (repeat' (first | (with_reducible exact bwC) | (with_reducible exact Below.refl _ _) | (with_reducible refine below_drewN _ ?_) | (with_reducible refine Below.drew ?_) | (with_reducible refine Below.alloc ?_ (by first | exact Nat.le_refl _ | omega | (have := bwC.size; simp; omega) | (simp; done)) _) | (with_reducible refine Below.setCell ?_ (by first | exact Nat.le_refl _ | omega | (have := bwC.size; simp; omega) | (simp; done)) _)))) (by first | exact Nat.le_refl _ | omega | (have := bwC.size; simp; omega) | (simp; done))
        have Zh4 : wD.heap[w.heap.size]? = some (.cells #[.int .u8 d, .int .u16 i, .int .u8 t, .int .u32 s, .int .u32 q, .int .u16 x, .int .u16 y] 66 (0, 0)) := blk_call kbwD (by (repeat' (first | (with_reducible exact Zh3) | (with_reducible exact heap_alloc_new _ _) | (with_reducible exact blk_new (by first | (simp; done) | omega)) | (with_reducible refine blk_drew ?_) | (with_reducible apply put7_2) | (with_reducible refine blk_else (by omega) ?_) | (with_reducible refine blk_old ?_))))
        have Zg4 : wD.heap[wA.heap.size]? = some (.cells #[.int .u8 p2, .int .u16 i, .int .u8 t, .int .u32 s, .int .u32 q, .int .u16 x, .int .u16 y] 66 (0, 0)) := blk_call kbwD (by (repeat' (first | (with_reducible exact Zg3) | (with_reducible exact heap_alloc_new _ _) | (with_reducible exact blk_new (by first | (simp; done) | omega)) | (with_reducible refine blk_drew ?_) | (with_reducible apply put7_2) | (with_reducible refine blk_else (by omega) ?_) | (with_reducible refine blk_old ?_))))
        clear Zh3 zh0 zh1 zh2 zh3 zh4 zh5 zh6 nh_ mh_ lh_ Zg3 zg0 zg1 zg2 zg3 zg4 zg5 zg6 ng_ mg_ lg_ fg0 fg1 fg2 fg3 fg4 fg5 fg6
        obtain ⟨zh0, zh1, zh2, zh3, zh4, zh5, zh6, -⟩ := at7 Zh4
        have nh_ := ne_blk Zh4
        have mh_ := Ne.symm nh_
        have lh_ := lt_blk Zh4
        obtain ⟨zg0, zg1, zg2, zg3, zg4, zg5, zg6, fg0, fg1, fg2, fg3, fg4, fg5, fg6⟩ := at7 Zg4
        have ng_ := ne_blk Zg4
        have mg_ := Ne.symm ng_
        have lg_ := lt_blk Zg4
        clear kbwD
        go_wp2_with fail
        refine (P3.out _).mono ?_
        rintro e wE ⟨rfl, kbwE⟩
        have bwE : Below w.heap.size w wE := bel_call kbwE (by (repeat' (first | (with_reducible exact bwD) | (with_reducible exact Below.refl _ _) | (with_reducible refine below_drewN _ ?_) | (with_reducible refine Below.drew ?_) | (with_reducible refine Below.alloc ?_ (by first | exact Nat.le_refl _ | omega | (have := bwD.size; simp; omega) | (simp; done)) _) | (with_reducible refine Below.setCell ?_ (by first | exact Nat.le_refl _ | omega | (have := bwD.size; simp; omega) | (simp; done)) _)))) (by first | exact Nat.le_refl _ | omega | (have := bwD.size; simp; omega) | (simp; done))
        have Zh5 : wE.heap[w.heap.size]? = some (.cells #[.int .u8 d, .int .u16 i, .int .u8 t, .int .u32 s, .int .u32 q, .int .u16 x, .int .u16 y] 66 (0, 0)) := blk_call kbwE (by (repeat' (first | (with_reducible exact Zh4) | (with_reducible exact heap_alloc_new _ _) | (with_reducible exact blk_new (by first | (simp; done) | omega)) | (with_reducible refine blk_drew ?_) | (with_reducible apply put7_2) | (with_reducible refine blk_else (by omega) ?_) | (with_reducible refine blk_old ?_))))
        have Zg5 : wE.heap[wA.heap.size]? = some (.cells #[.int .u8 p2, .int .u16 i, .int .u8 (t - 1), .int .u32 s, .int .u32 q, .int .u16 x, .int .u16 y] 66 (0, 0)) := blk_call kbwE (by (repeat' (first | (with_reducible exact Zg4) | (with_reducible exact heap_alloc_new _ _) | (with_reducible exact blk_new (by first | (simp; done) | omega)) | (with_reducible refine blk_drew ?_) | (with_reducible apply put7_2) | (with_reducible refine blk_else (by omega) ?_) | (with_reducible refine blk_old ?_))))
        clear Zh4 zh0 zh1 zh2 zh3 zh4 zh5 zh6 nh_ mh_ lh_ Zg4 zg0 zg1 zg2 zg3 zg4 zg5 zg6 ng_ mg_ lg_ fg0 fg1 fg2 fg3 fg4 fg5 fg6
        obtain ⟨zh0, zh1, zh2, zh3, zh4, zh5, zh6, -⟩ := at7 Zh5
        have nh_ := ne_blk Zh5
        have mh_ := Ne.symm nh_
        have lh_ := lt_blk Zh5
        obtain ⟨zg0, zg1, zg2, zg3, zg4, zg5, zg6, fg0, fg1, fg2, fg3, fg4, fg5, fg6⟩ := at7 Zg5
        have ng_ := ne_blk Zg5
        have mg_ := Ne.symm ng_
        have lg_ := lt_blk Zg5
        clear kbwE
        go_wp2_with fail
        refine (H2.out _).mono ?_
        rintro e wF ⟨rfl, kbwF⟩
        have bwF : Below w.heap.size w wF := bel_call kbwF (by (repeat' (first | (with_reducible exact bwE) | (with_reducible exact Below.refl _ _) | (with_reducible refine below_drewN _ ?_) | (with_reducible refine Below.drew ?_) | (with_reducible refine Below.alloc ?_ (by first | exact Nat.le_refl _ | omega | (have := bwE.size; simp; omega) | (simp; done)) _) | (with_reducible refine Below.setCell ?_ (by first | exact Nat.le_refl _ | omega | (have := bwE.size; simp; omega) | (simp; done)) _)))) (by first | exact Nat.le_refl _ | omega | (have := bwE.size; simp; omega) | (simp; done))
        have Zh6 : wF.heap[w.heap.size]? = some (.cells #[.int .u8 d, .int .u16 i, .int .u8 t, .int .u32 s, .int .u32 q, .int .u16 x, .int .u16 y] 66 (0, 0)) := blk_call kbwF (by (repeat' (first | (with_reducible exact Zh5) | (with_reducible exact heap_alloc_new _ _) | (with_reducible exact blk_new (by first | (simp; done) | omega)) | (with_reducible refine blk_drew ?_) | (with_reducible apply put7_2) | (with_reducible refine blk_else (by omega) ?_) | (with_reducible refine blk_old ?_))))
        have Zg6 : wF.heap[wA.heap.size]? = some (.cells #[.int .u8 p2, .int .u16 i, .int .u8 (t - 1), .int .u32 s, .int .u32 q, .int .u16 x, .int .u16 y] 66 (0, 0)) := blk_call kbwF (by (repeat' (first | (with_reducible exact Zg5) | (with_reducible exact heap_alloc_new _ _) | (with_reducible exact blk_new (by first | (simp; done) | omega)) | (with_reducible refine blk_drew ?_) | (with_reducible apply put7_2) | (with_reducible refine blk_else (by omega) ?_) | (with_reducible refine blk_old ?_))))
        clear Zh5 zh0 zh1 zh2 zh3 zh4 zh5 zh6 nh_ mh_ lh_ Zg5 zg0 zg1 zg2 zg3 zg4 zg5 zg6 ng_ mg_ lg_ fg0 fg1 fg2 fg3 fg4 fg5 fg6
        obtain ⟨zh0, zh1, zh2, zh3, zh4, zh5, zh6, -⟩ := at7 Zh6
        have nh_ := ne_blk Zh6
        have mh_ := Ne.symm nh_
        have lh_ := lt_blk Zh6
        obtain ⟨zg0, zg1, zg2, zg3, zg4, zg5, zg6, fg0, fg1, fg2, fg3, fg4, fg5, fg6⟩ := at7 Zg6
        have ng_ := ne_blk Zg6
        have mg_ := Ne.symm ng_
        have lg_ := lt_blk Zg6
        clear kbwF
        go_wp2_with fail
        refine (M2.out _).mono ?_
        rintro e wG ⟨rfl, kbwG⟩
        have bwG : Below w.heap.size w wG := bel_call kbwG (by (repeat' (first | (with_reducible exact bwF) | (with_reducible exact Below.refl _ _) | (with_reducible refine below_drewN _ ?_) | (with_reducible refine Below.drew ?_) | (with_reducible refine Below.alloc ?_ (by first | exact Nat.le_refl _ | omega | (have := bwF.size; simp; omega) | (simp; done)) _) | (with_reducible refine Below.setCell ?_ (by first | exact Nat.le_refl _ | omega | (have := bwF.size; simp; omega) | (simp; done)) _)))) (by first | exact Nat.le_refl _ | omega | (have := bwF.size; simp; omega) | (simp; done))
        have Zh7 : wG.heap[w.heap.size]? = some (.cells #[.int .u8 d, .int .u16 i, .int .u8 t, .int .u32 s, .int .u32 q, .int .u16 x, .int .u16 y] 66 (0, 0)) := blk_call kbwG (by (repeat' (first | (with_reducible exact Zh6) | (with_reducible exact heap_alloc_new _ _) | (with_reducible exact blk_new (by first | (simp; done) | omega)) | (with_reducible refine blk_drew ?_) | (with_reducible apply put7_2) | (with_reducible refine blk_else (by omega) ?_) | (with_reducible refine blk_old ?_))))
        have Zg7 : wG.heap[wA.heap.size]? = some (.cells #[.int .u8 p2, .int .u16 i, .int .u8 (t - 1), .int .u32 s, .int .u32 q, .int .u16 x, .int .u16 y] 66 (0, 0)) := blk_call kbwG (by (repeat' (first | (with_reducible exact Zg6) | (with_reducible exact heap_alloc_new _ _) | (with_reducible exact blk_new (by first | (simp; done) | omega)) | (with_reducible refine blk_drew ?_) | (with_reducible apply put7_2) | (with_reducible refine blk_else (by omega) ?_) | (with_reducible refine blk_old ?_))))
        clear Zh6 zh0 zh1 zh2 zh3 zh4 zh5 zh6 nh_ mh_ lh_ Zg6 zg0 zg1 zg2 zg3 zg4 zg5 zg6 ng_ mg_ lg_ fg0 fg1 fg2 fg3 fg4 fg5 fg6
        obtain ⟨zh0, zh1, zh2, zh3, zh4, zh5, zh6, -⟩ := at7 Zh7
        have nh_ := ne_blk Zh7
        have mh_ := Ne.symm nh_
        have lh_ := lt_blk Zh7
        obtain ⟨zg0, zg1, zg2, zg3, zg4, zg5, zg6, fg0, fg1, fg2, fg3, fg4, fg5, fg6⟩ := at7 Zg7
        have ng_ := ne_blk Zg7
        have mg_ := Ne.symm ng_
        have lg_ := lt_blk Zg7
        clear kbwG
        go_wp2_with fail
        refine (LV.out _).mono ?_
        rintro e wL ⟨rfl, kbwL⟩
        have bwL : Below w.heap.size w wL := bel_call kbwL (by (repeat' (first | (with_reducible exact bwG) | (with_reducible exact Below.refl _ _) | (with_reducible refine below_drewN _ ?_) | (with_reducible refine Below.drew ?_) | (with_reducible refine Below.alloc ?_ (by first | exact Nat.le_refl _ | omega | (have := bwG.size; simp; omega) | (simp; done)) _) | (with_reducible refine Below.setCell ?_ (by first | exact Nat.le_refl _ | omega | (have := bwG.size; simp; omega) | (simp; done)) _)))) (by first | exact Nat.le_refl _ | omega | (have := bwG.size; simp; omega) | (simp; done))
        have Zh8 : wL.heap[w.heap.size]? = some (.cells #[.int .u8 d, .int .u16 i, .int .u8 t, .int .u32 s, .int .u32 q, .int .u16 x, .int .u16 y] 66 (0, 0)) := blk_call kbwL (by (repeat' (first | (with_reducible exact Zh7) | (with_reducible exact heap_alloc_new _ _) | (with_reducible exact blk_new (by first | (simp; done) | omega)) | (with_reducible refine blk_drew ?_) | (with_reducible apply put7_2) | (with_reducible refine blk_else (by omega) ?_) | (with_reducible refine blk_old ?_))))
        have Zg8 : wL.heap[wA.heap.size]? = some (.cells #[.int .u8 p2, .int .u16 i, .int .u8 (t - 1), .int .u32 s, .int .u32 q, .int .u16 x, .int .u16 y] 66 (0, 0)) := blk_call kbwL (by (repeat' (first | (with_reducible exact Zg7) | (with_reducible exact heap_alloc_new _ _) | (with_reducible exact blk_new (by first | (simp; done) | omega)) | (with_reducible refine blk_drew ?_) | (with_reducible apply put7_2) | (with_reducible refine blk_else (by omega) ?_) | (with_reducible refine blk_old ?_))))
        clear Zh7 zh0 zh1 zh2 zh3 zh4 zh5 zh6 nh_ mh_ lh_ Zg7 zg0 zg1 zg2 zg3 zg4 zg5 zg6 ng_ mg_ lg_ fg0 fg1 fg2 fg3 fg4 fg5 fg6
        obtain ⟨zh0, zh1, zh2, zh3, zh4, zh5, zh6, -⟩ := at7 Zh8
        have nh_ := ne_blk Zh8
        have mh_ := Ne.symm nh_
        have lh_ := lt_blk Zh8
        obtain ⟨zg0, zg1, zg2, zg3, zg4, zg5, zg6, fg0, fg1, fg2, fg3, fg4, fg5, fg6⟩ := at7 Zg8
        have ng_ := ne_blk Zg8
        have mg_ := Ne.symm ng_
        have lg_ := lt_blk Zg8
        clear kbwL
        go_wp2
        go_ret
        exact ⟨rfl, bwL⟩
end Go.Proofs.Ytiaafpemhalmpaa
