/-
  Layer 33: the law on what is taken, marked and hopped, walked: true for any arguments. No condition.
-/
import Derived.Test.YtiaafpemhalmpaaHd9
namespace Go.Proofs.Ytiaafpemhalmpaa
set_option linter.unusedVariables false
set_option linter.unusedSimpArgs false
open Go.ChangeShapes Go.WideShapes Go.ChangeAt Go.RowKit
attribute [-go_sem] run_index_string binOp_string_eql binOp_string_neq run_string_add_if run_slice_string_from_if run_slice_string_to_if
attribute [local go_sem] index_at add_fits slice_from slice_to eql_str neq_str alloc_drewN setCell_drewN

set_option maxRecDepth 100000 in
set_option maxHeartbeats 2000000 in
theorem walk_headerTakes (S : ByteArray) (hS : S.size ≤ maxLen) (p : Int) (p0 : 0 ≤ p) (p1 : p ≤ 255) (w : World) :
    Calls Try.prog 6 #[.string S, .int .u8 p] w fun e w' => e = .returned (.bool true) ∧ Below w.heap.size w w' := by
  have LV := Lib.hid (fun W => lives33 W)
  have hm : Try.prog.eqGuardType Try.prog.depth 66 = false := by kernel_rfl
  have B0 : Below w.heap.size w w := Below.refl _ _
  by_cases hl : 70000 < S.size
  · have g : (70000 : Int) < S.size := by omega
    go_enter Try.func6, Try.ntmps6
    go_wp2_with fail
    refine (LV.out _).mono ?_
    rintro e wL ⟨rfl, kbL⟩
    have bL : Below w.heap.size w wL := bel_call kbL (by (repeat' (first | (with_reducible exact B0) | (with_reducible exact Below.refl _ _) | (with_reducible refine below_drewN _ ?_) | (with_reducible refine Below.drew ?_) | (with_reducible refine Below.alloc ?_ (by first | exact Nat.le_refl _ | omega | (have := B0.size; simp; omega) | (simp; done)) _) | (with_reducible refine Below.setCell ?_ (by first | exact Nat.le_refl _ | omega | (have := B0.size; simp; omega) | (simp; done)) _)))) (by first | exact Nat.le_refl _ | omega | (have := B0.size; simp; omega) | (simp; done))
    clear kbL
    go_wp2
    go_ret
    exact ⟨rfl, bL⟩
  · have g : ¬ (70000 : Int) < S.size := by omega
    have T1' := Lib.hid (fun W => htake_all S (by omega) W)
    have T2' := Lib.hid (fun W => rtake_all S (by omega) W)
    have M1 := Lib.hid (fun W => hmark_any S (by omega) p p0 p1 W)
    have M2 := Lib.hid (fun W => rmark_any S (by omega) p p0 p1 W)
    have H1 := Lib.hid (fun W => hhop_any S (by omega) W)
    have H2 := Lib.hid (fun W => rhop_any S (by omega) W)
    have FIN : Hid (tke S = 0 → tkH S = rdh S ∧ pf (rdh S) (tkB S) = S ∧ (tkB S).size ≤ 65507 ∧ (rdh S).ok) := Lib.hid (fun h0 => by
      obtain ⟨a1, a2, a3⟩ := put_take h0
      have e4 : tkB S = S.extract 28 S.size := by unfold tkB; rw [if_pos h0]
      rw [e4]
      exact ⟨by unfold tkH; rw [if_pos h0], a1, a2, rdh_ok S⟩)
    generalize hmS : mkS S p = mS at *
    generalize hmE : mkE S p = mE at *
    generalize hhS : hpS S = hS_ at *
    generalize hhE : hpE S = hE_ at *
    generalize tkB S = B at *
    generalize rdh S = R at *
    generalize tkH S = H at *
    obtain ⟨d, i, t, s, q, x, y⟩ := H
    generalize hk : tke S = k at *
    clear hmS hmE hhS hhE hk
    have T1 : Hid (∀ W, Calls Try.prog 27 #[.string S] W fun e w' => e = .returned (.tuple #[.agg #[.int .u8 d, .int .u16 i, .int .u8 t, .int .u32 s, .int .u32 q, .int .u16 x, .int .u16 y], .string B, .int .i64 k]) ∧ Below W.heap.size W w') := Lib.hid T1'.out
    have T2 : Hid (∀ W, Calls Try.prog 28 #[.string S] W fun e w' => e = .returned (.tuple #[.agg #[.int .u8 d, .int .u16 i, .int .u8 t, .int .u32 s, .int .u32 q, .int .u16 x, .int .u16 y], .string B, .int .i64 k]) ∧ Below W.heap.size W w') := Lib.hid T2'.out
    clear T1' T2'
    by_cases h0 : k = 0
    · obtain ⟨f1, f2, f3, f4⟩ := FIN.out h0
      subst h0
      subst f1
      have PO := Lib.hid (fun W => hput_ok d i t s q x y f4 B f3 W)
      rw [f2] at PO
      clear f2 f3 f4 FIN
      go_enter Try.func6, Try.ntmps6
      go_wp2_with fail
      refine (T1.out _).mono ?_
      rintro e wA ⟨rfl, kbwA⟩
      have bwA : Below w.heap.size w wA := bel_call kbwA (by (repeat' (first | (with_reducible exact B0) | (with_reducible exact Below.refl _ _) | (with_reducible refine below_drewN _ ?_) | (with_reducible refine Below.drew ?_) | (with_reducible refine Below.alloc ?_ (by first | exact Nat.le_refl _ | omega | (have := B0.size; simp; omega) | (simp; done)) _) | (with_reducible refine Below.setCell ?_ (by first | exact Nat.le_refl _ | omega | (have := B0.size; simp; omega) | (simp; done)) _)))) (by first | exact Nat.le_refl _ | omega | (have := B0.size; simp; omega) | (simp; done))
      clear kbwA
      go_wp2_with fail
      refine (T2.out _).mono ?_
      rintro e wB ⟨rfl, kbwB⟩
      have bwB : Below w.heap.size w wB := bel_call kbwB (by (repeat' (first | (with_reducible exact bwA) | (with_reducible exact Below.refl _ _) | (with_reducible refine below_drewN _ ?_) | (with_reducible refine Below.drew ?_) | (with_reducible refine Below.alloc ?_ (by first | exact Nat.le_refl _ | omega | (have := bwA.size; simp; omega) | (simp; done)) _) | (with_reducible refine Below.setCell ?_ (by first | exact Nat.le_refl _ | omega | (have := bwA.size; simp; omega) | (simp; done)) _)))) (by first | exact Nat.le_refl _ | omega | (have := bwA.size; simp; omega) | (simp; done))
      have Za2 : wB.heap[wA.heap.size]? = some (.cells #[.int .u8 d, .int .u16 i, .int .u8 t, .int .u32 s, .int .u32 q, .int .u16 x, .int .u16 y] 66 (0, 0)) := blk_call kbwB (by (repeat' (first | (with_reducible exact heap_alloc_new _ _) | (with_reducible exact blk_new (by first | (simp; done) | omega)) | (with_reducible refine blk_drew ?_) | (with_reducible apply put7_2) | (with_reducible refine blk_else (by omega) ?_) | (with_reducible refine blk_old ?_))))
      obtain ⟨za0, za1, za2, za3, za4, za5, za6, -⟩ := at7 Za2
      have na_ := ne_blk Za2
      have ma_ := Ne.symm na_
      have la_ := lt_blk Za2
      clear kbwB
      go_wp2_with fail
      refine (M1.out _).mono ?_
      rintro e wC ⟨rfl, kbwC⟩
      have bwC : Below w.heap.size w wC := bel_call kbwC (by (repeat' (first | (with_reducible exact bwB) | (with_reducible exact Below.refl _ _) | (with_reducible refine below_drewN _ ?_) | (with_reducible refine Below.drew ?_) | (with_reducible refine Below.alloc ?_ (by first | exact Nat.le_refl _ | omega | (have := bwB.size; simp; omega) | (simp; done)) _) | (with_reducible refine Below.setCell ?_ (by first | exact Nat.le_refl _ | omega | (have := bwB.size; simp; omega) | (simp; done)) _)))) (by first | exact Nat.le_refl _ | omega | (have := bwB.size; simp; omega) | (simp; done))
      have Za3 : wC.heap[wA.heap.size]? = some (.cells #[.int .u8 d, .int .u16 i, .int .u8 t, .int .u32 s, .int .u32 q, .int .u16 x, .int .u16 y] 66 (0, 0)) := blk_call kbwC (by (repeat' (first | (with_reducible exact Za2) | (with_reducible exact heap_alloc_new _ _) | (with_reducible exact blk_new (by first | (simp; done) | omega)) | (with_reducible refine blk_drew ?_) | (with_reducible apply put7_2) | (with_reducible refine blk_else (by omega) ?_) | (with_reducible refine blk_old ?_))))
      have Zc3 : wC.heap[wB.heap.size]? = some (.cells #[.int .u8 d, .int .u16 i, .int .u8 t, .int .u32 s, .int .u32 q, .int .u16 x, .int .u16 y] 66 (0, 0)) := blk_call kbwC (by (repeat' (first | (with_reducible exact heap_alloc_new _ _) | (with_reducible exact blk_new (by first | (simp; done) | omega)) | (with_reducible refine blk_drew ?_) | (with_reducible apply put7_2) | (with_reducible refine blk_else (by omega) ?_) | (with_reducible refine blk_old ?_))))
      clear Za2 za0 za1 za2 za3 za4 za5 za6 na_ ma_ la_
      obtain ⟨za0, za1, za2, za3, za4, za5, za6, -⟩ := at7 Za3
      have na_ := ne_blk Za3
      have ma_ := Ne.symm na_
      have la_ := lt_blk Za3
      obtain ⟨zc0, zc1, zc2, zc3, zc4, zc5, zc6, -⟩ := at7 Zc3
      have nc_ := ne_blk Zc3
      have mc_ := Ne.symm nc_
      have lc_ := lt_blk Zc3
      clear kbwC
      go_wp2_with fail
      refine (M2.out _).mono ?_
      rintro e wD ⟨rfl, kbwD⟩
      have bwD : Below w.heap.size w wD := bel_call kbwD (by (repeat' (first | (with_reducible exact bwC) | (with_reducible exact Below.refl _ _) | (with_reducible refine below_drewN _ ?_) | (with_reducible refine Below.drew ?_) | (with_reducible refine Below.alloc ?_ (by first | exact Nat.le_refl _ | omega | (have := bwC.size; simp; omega) | (simp; done)) _) | (with_reducible refine Below.setCell ?_ (by first | exact Nat.le_refl _ | omega | (have := bwC.size; simp; omega) | (simp; done)) _)))) (by first | exact Nat.le_refl _ | omega | (have := bwC.size; simp; omega) | (simp; done))
      have Za4 : wD.heap[wA.heap.size]? = some (.cells #[.int .u8 d, .int .u16 i, .int .u8 t, .int .u32 s, .int .u32 q, .int .u16 x, .int .u16 y] 66 (0, 0)) := blk_call kbwD (by (repeat' (first | (with_reducible exact Za3) | (with_reducible exact heap_alloc_new _ _) | (with_reducible exact blk_new (by first | (simp; done) | omega)) | (with_reducible refine blk_drew ?_) | (with_reducible apply put7_2) | (with_reducible refine blk_else (by omega) ?_) | (with_reducible refine blk_old ?_))))
      have Zc4 : wD.heap[wB.heap.size]? = some (.cells #[.int .u8 d, .int .u16 i, .int .u8 t, .int .u32 s, .int .u32 q, .int .u16 x, .int .u16 y] 66 (0, 0)) := blk_call kbwD (by (repeat' (first | (with_reducible exact Zc3) | (with_reducible exact heap_alloc_new _ _) | (with_reducible exact blk_new (by first | (simp; done) | omega)) | (with_reducible refine blk_drew ?_) | (with_reducible apply put7_2) | (with_reducible refine blk_else (by omega) ?_) | (with_reducible refine blk_old ?_))))
      clear Za3 za0 za1 za2 za3 za4 za5 za6 na_ ma_ la_ Zc3 zc0 zc1 zc2 zc3 zc4 zc5 zc6 nc_ mc_ lc_
      obtain ⟨za0, za1, za2, za3, za4, za5, za6, -⟩ := at7 Za4
      have na_ := ne_blk Za4
      have ma_ := Ne.symm na_
      have la_ := lt_blk Za4
      obtain ⟨zc0, zc1, zc2, zc3, zc4, zc5, zc6, -⟩ := at7 Zc4
      have nc_ := ne_blk Zc4
      have mc_ := Ne.symm nc_
      have lc_ := lt_blk Zc4
      clear kbwD
      go_wp2_with fail
      refine (H1.out _).mono ?_
      rintro e wE ⟨rfl, kbwE⟩
      have bwE : Below w.heap.size w wE := bel_call kbwE (by (repeat' (first | (with_reducible exact bwD) | (with_reducible exact Below.refl _ _) | (with_reducible refine below_drewN _ ?_) | (with_reducible refine Below.drew ?_) | (with_reducible refine Below.alloc ?_ (by first | exact Nat.le_refl _ | omega | (have := bwD.size; simp; omega) | (simp; done)) _) | (with_reducible refine Below.setCell ?_ (by first | exact Nat.le_refl _ | omega | (have := bwD.size; simp; omega) | (simp; done)) _)))) (by first | exact Nat.le_refl _ | omega | (have := bwD.size; simp; omega) | (simp; done))
      have Za5 : wE.heap[wA.heap.size]? = some (.cells #[.int .u8 d, .int .u16 i, .int .u8 t, .int .u32 s, .int .u32 q, .int .u16 x, .int .u16 y] 66 (0, 0)) := blk_call kbwE (by (repeat' (first | (with_reducible exact Za4) | (with_reducible exact heap_alloc_new _ _) | (with_reducible exact blk_new (by first | (simp; done) | omega)) | (with_reducible refine blk_drew ?_) | (with_reducible apply put7_2) | (with_reducible refine blk_else (by omega) ?_) | (with_reducible refine blk_old ?_))))
      have Zc5 : wE.heap[wB.heap.size]? = some (.cells #[.int .u8 d, .int .u16 i, .int .u8 t, .int .u32 s, .int .u32 q, .int .u16 x, .int .u16 y] 66 (0, 0)) := blk_call kbwE (by (repeat' (first | (with_reducible exact Zc4) | (with_reducible exact heap_alloc_new _ _) | (with_reducible exact blk_new (by first | (simp; done) | omega)) | (with_reducible refine blk_drew ?_) | (with_reducible apply put7_2) | (with_reducible refine blk_else (by omega) ?_) | (with_reducible refine blk_old ?_))))
      clear Za4 za0 za1 za2 za3 za4 za5 za6 na_ ma_ la_ Zc4 zc0 zc1 zc2 zc3 zc4 zc5 zc6 nc_ mc_ lc_
      obtain ⟨za0, za1, za2, za3, za4, za5, za6, -⟩ := at7 Za5
      have na_ := ne_blk Za5
      have ma_ := Ne.symm na_
      have la_ := lt_blk Za5
      obtain ⟨zc0, zc1, zc2, zc3, zc4, zc5, zc6, -⟩ := at7 Zc5
      have nc_ := ne_blk Zc5
      have mc_ := Ne.symm nc_
      have lc_ := lt_blk Zc5
      clear kbwE
      go_wp2_with fail
      refine (H2.out _).mono ?_
      rintro e wF ⟨rfl, kbwF⟩
      have bwF : Below w.heap.size w wF := bel_call kbwF (by (repeat' (first | (with_reducible exact bwE) | (with_reducible exact Below.refl _ _) | (with_reducible refine below_drewN _ ?_) | (with_reducible refine Below.drew ?_) | (with_reducible refine Below.alloc ?_ (by first | exact Nat.le_refl _ | omega | (have := bwE.size; simp; omega) | (simp; done)) _) | (with_reducible refine Below.setCell ?_ (by first | exact Nat.le_refl _ | omega | (have := bwE.size; simp; omega) | (simp; done)) _)))) (by first | exact Nat.le_refl _ | omega | (have := bwE.size; simp; omega) | (simp; done))
      have Za6 : wF.heap[wA.heap.size]? = some (.cells #[.int .u8 d, .int .u16 i, .int .u8 t, .int .u32 s, .int .u32 q, .int .u16 x, .int .u16 y] 66 (0, 0)) := blk_call kbwF (by (repeat' (first | (with_reducible exact Za5) | (with_reducible exact heap_alloc_new _ _) | (with_reducible exact blk_new (by first | (simp; done) | omega)) | (with_reducible refine blk_drew ?_) | (with_reducible apply put7_2) | (with_reducible refine blk_else (by omega) ?_) | (with_reducible refine blk_old ?_))))
      have Zc6 : wF.heap[wB.heap.size]? = some (.cells #[.int .u8 d, .int .u16 i, .int .u8 t, .int .u32 s, .int .u32 q, .int .u16 x, .int .u16 y] 66 (0, 0)) := blk_call kbwF (by (repeat' (first | (with_reducible exact Zc5) | (with_reducible exact heap_alloc_new _ _) | (with_reducible exact blk_new (by first | (simp; done) | omega)) | (with_reducible refine blk_drew ?_) | (with_reducible apply put7_2) | (with_reducible refine blk_else (by omega) ?_) | (with_reducible refine blk_old ?_))))
      clear Za5 za0 za1 za2 za3 za4 za5 za6 na_ ma_ la_ Zc5 zc0 zc1 zc2 zc3 zc4 zc5 zc6 nc_ mc_ lc_
      obtain ⟨za0, za1, za2, za3, za4, za5, za6, -⟩ := at7 Za6
      have na_ := ne_blk Za6
      have ma_ := Ne.symm na_
      have la_ := lt_blk Za6
      obtain ⟨zc0, zc1, zc2, zc3, zc4, zc5, zc6, -⟩ := at7 Zc6
      have nc_ := ne_blk Zc6
      have mc_ := Ne.symm nc_
      have lc_ := lt_blk Zc6
      clear kbwF
      go_wp2_with fail
      refine (PO.out _).mono ?_
      rintro e wG ⟨rfl, kbwG⟩
      have bwG : Below w.heap.size w wG := bel_call kbwG (by (repeat' (first | (with_reducible exact bwF) | (with_reducible exact Below.refl _ _) | (with_reducible refine below_drewN _ ?_) | (with_reducible refine Below.drew ?_) | (with_reducible refine Below.alloc ?_ (by first | exact Nat.le_refl _ | omega | (have := bwF.size; simp; omega) | (simp; done)) _) | (with_reducible refine Below.setCell ?_ (by first | exact Nat.le_refl _ | omega | (have := bwF.size; simp; omega) | (simp; done)) _)))) (by first | exact Nat.le_refl _ | omega | (have := bwF.size; simp; omega) | (simp; done))
      have Za7 : wG.heap[wA.heap.size]? = some (.cells #[.int .u8 d, .int .u16 i, .int .u8 t, .int .u32 s, .int .u32 q, .int .u16 x, .int .u16 y] 66 (0, 0)) := blk_call kbwG (by (repeat' (first | (with_reducible exact Za6) | (with_reducible exact heap_alloc_new _ _) | (with_reducible exact blk_new (by first | (simp; done) | omega)) | (with_reducible refine blk_drew ?_) | (with_reducible apply put7_2) | (with_reducible refine blk_else (by omega) ?_) | (with_reducible refine blk_old ?_))))
      have Zc7 : wG.heap[wB.heap.size]? = some (.cells #[.int .u8 d, .int .u16 i, .int .u8 t, .int .u32 s, .int .u32 q, .int .u16 x, .int .u16 y] 66 (0, 0)) := blk_call kbwG (by (repeat' (first | (with_reducible exact Zc6) | (with_reducible exact heap_alloc_new _ _) | (with_reducible exact blk_new (by first | (simp; done) | omega)) | (with_reducible refine blk_drew ?_) | (with_reducible apply put7_2) | (with_reducible refine blk_else (by omega) ?_) | (with_reducible refine blk_old ?_))))
      clear Za6 za0 za1 za2 za3 za4 za5 za6 na_ ma_ la_ Zc6 zc0 zc1 zc2 zc3 zc4 zc5 zc6 nc_ mc_ lc_
      obtain ⟨za0, za1, za2, za3, za4, za5, za6, -⟩ := at7 Za7
      have na_ := ne_blk Za7
      have ma_ := Ne.symm na_
      have la_ := lt_blk Za7
      obtain ⟨zc0, zc1, zc2, zc3, zc4, zc5, zc6, -⟩ := at7 Zc7
      have nc_ := ne_blk Zc7
      have mc_ := Ne.symm nc_
      have lc_ := lt_blk Zc7
      clear kbwG
      go_wp2_with fail
      refine (LV.out _).mono ?_
      rintro e wL ⟨rfl, kbwL⟩
      have bwL : Below w.heap.size w wL := bel_call kbwL (by (repeat' (first | (with_reducible exact bwG) | (with_reducible exact Below.refl _ _) | (with_reducible refine below_drewN _ ?_) | (with_reducible refine Below.drew ?_) | (with_reducible refine Below.alloc ?_ (by first | exact Nat.le_refl _ | omega | (have := bwG.size; simp; omega) | (simp; done)) _) | (with_reducible refine Below.setCell ?_ (by first | exact Nat.le_refl _ | omega | (have := bwG.size; simp; omega) | (simp; done)) _)))) (by first | exact Nat.le_refl _ | omega | (have := bwG.size; simp; omega) | (simp; done))
      have Za8 : wL.heap[wA.heap.size]? = some (.cells #[.int .u8 d, .int .u16 i, .int .u8 t, .int .u32 s, .int .u32 q, .int .u16 x, .int .u16 y] 66 (0, 0)) := blk_call kbwL (by (repeat' (first | (with_reducible exact Za7) | (with_reducible exact heap_alloc_new _ _) | (with_reducible exact blk_new (by first | (simp; done) | omega)) | (with_reducible refine blk_drew ?_) | (with_reducible apply put7_2) | (with_reducible refine blk_else (by omega) ?_) | (with_reducible refine blk_old ?_))))
      have Zc8 : wL.heap[wB.heap.size]? = some (.cells #[.int .u8 d, .int .u16 i, .int .u8 t, .int .u32 s, .int .u32 q, .int .u16 x, .int .u16 y] 66 (0, 0)) := blk_call kbwL (by (repeat' (first | (with_reducible exact Zc7) | (with_reducible exact heap_alloc_new _ _) | (with_reducible exact blk_new (by first | (simp; done) | omega)) | (with_reducible refine blk_drew ?_) | (with_reducible apply put7_2) | (with_reducible refine blk_else (by omega) ?_) | (with_reducible refine blk_old ?_))))
      clear Za7 za0 za1 za2 za3 za4 za5 za6 na_ ma_ la_ Zc7 zc0 zc1 zc2 zc3 zc4 zc5 zc6 nc_ mc_ lc_
      obtain ⟨za0, za1, za2, za3, za4, za5, za6, -⟩ := at7 Za8
      have na_ := ne_blk Za8
      have ma_ := Ne.symm na_
      have la_ := lt_blk Za8
      obtain ⟨zc0, zc1, zc2, zc3, zc4, zc5, zc6, -⟩ := at7 Zc8
      have nc_ := ne_blk Zc8
      have mc_ := Ne.symm nc_
      have lc_ := lt_blk Zc8
      clear kbwL
      go_wp2
      go_ret
      exact ⟨rfl, bwL⟩
    · have hk1 : (k == 0) = false := by simp [h0]
      clear h0 FIN
      go_enter Try.func6, Try.ntmps6
      go_wp2_with fail
      refine (T1.out _).mono ?_
      rintro e wA ⟨rfl, kbwA⟩
      have bwA : Below w.heap.size w wA := bel_call kbwA (by (repeat' (first | (with_reducible exact B0) | (with_reducible exact Below.refl _ _) | (with_reducible refine below_drewN _ ?_) | (with_reducible refine Below.drew ?_) | (with_reducible refine Below.alloc ?_ (by first | exact Nat.le_refl _ | omega | (have := B0.size; simp; omega) | (simp; done)) _) | (with_reducible refine Below.setCell ?_ (by first | exact Nat.le_refl _ | omega | (have := B0.size; simp; omega) | (simp; done)) _)))) (by first | exact Nat.le_refl _ | omega | (have := B0.size; simp; omega) | (simp; done))
      clear kbwA
      go_wp2_with fail
      refine (T2.out _).mono ?_
      rintro e wB ⟨rfl, kbwB⟩
      have bwB : Below w.heap.size w wB := bel_call kbwB (by (repeat' (first | (with_reducible exact bwA) | (with_reducible exact Below.refl _ _) | (with_reducible refine below_drewN _ ?_) | (with_reducible refine Below.drew ?_) | (with_reducible refine Below.alloc ?_ (by first | exact Nat.le_refl _ | omega | (have := bwA.size; simp; omega) | (simp; done)) _) | (with_reducible refine Below.setCell ?_ (by first | exact Nat.le_refl _ | omega | (have := bwA.size; simp; omega) | (simp; done)) _)))) (by first | exact Nat.le_refl _ | omega | (have := bwA.size; simp; omega) | (simp; done))
      have Za2 : wB.heap[wA.heap.size]? = some (.cells #[.int .u8 d, .int .u16 i, .int .u8 t, .int .u32 s, .int .u32 q, .int .u16 x, .int .u16 y] 66 (0, 0)) := blk_call kbwB (by (repeat' (first | (with_reducible exact heap_alloc_new _ _) | (with_reducible exact blk_new (by first | (simp; done) | omega)) | (with_reducible refine blk_drew ?_) | (with_reducible apply put7_2) | (with_reducible refine blk_else (by omega) ?_) | (with_reducible refine blk_old ?_))))
      obtain ⟨za0, za1, za2, za3, za4, za5, za6, -⟩ := at7 Za2
      have na_ := ne_blk Za2
      have ma_ := Ne.symm na_
      have la_ := lt_blk Za2
      clear kbwB
      go_wp2_with fail
      refine (M1.out _).mono ?_
      rintro e wC ⟨rfl, kbwC⟩
      have bwC : Below w.heap.size w wC := bel_call kbwC (by (repeat' (first | (with_reducible exact bwB) | (with_reducible exact Below.refl _ _) | (with_reducible refine below_drewN _ ?_) | (with_reducible refine Below.drew ?_) | (with_reducible refine Below.alloc ?_ (by first | exact Nat.le_refl _ | omega | (have := bwB.size; simp; omega) | (simp; done)) _) | (with_reducible refine Below.setCell ?_ (by first | exact Nat.le_refl _ | omega | (have := bwB.size; simp; omega) | (simp; done)) _)))) (by first | exact Nat.le_refl _ | omega | (have := bwB.size; simp; omega) | (simp; done))
      have Za3 : wC.heap[wA.heap.size]? = some (.cells #[.int .u8 d, .int .u16 i, .int .u8 t, .int .u32 s, .int .u32 q, .int .u16 x, .int .u16 y] 66 (0, 0)) := blk_call kbwC (by (repeat' (first | (with_reducible exact Za2) | (with_reducible exact heap_alloc_new _ _) | (with_reducible exact blk_new (by first | (simp; done) | omega)) | (with_reducible refine blk_drew ?_) | (with_reducible apply put7_2) | (with_reducible refine blk_else (by omega) ?_) | (with_reducible refine blk_old ?_))))
      have Zc3 : wC.heap[wB.heap.size]? = some (.cells #[.int .u8 d, .int .u16 i, .int .u8 t, .int .u32 s, .int .u32 q, .int .u16 x, .int .u16 y] 66 (0, 0)) := blk_call kbwC (by (repeat' (first | (with_reducible exact heap_alloc_new _ _) | (with_reducible exact blk_new (by first | (simp; done) | omega)) | (with_reducible refine blk_drew ?_) | (with_reducible apply put7_2) | (with_reducible refine blk_else (by omega) ?_) | (with_reducible refine blk_old ?_))))
      clear Za2 za0 za1 za2 za3 za4 za5 za6 na_ ma_ la_
      obtain ⟨za0, za1, za2, za3, za4, za5, za6, -⟩ := at7 Za3
      have na_ := ne_blk Za3
      have ma_ := Ne.symm na_
      have la_ := lt_blk Za3
      obtain ⟨zc0, zc1, zc2, zc3, zc4, zc5, zc6, -⟩ := at7 Zc3
      have nc_ := ne_blk Zc3
      have mc_ := Ne.symm nc_
      have lc_ := lt_blk Zc3
      clear kbwC
      go_wp2_with fail
      refine (M2.out _).mono ?_
      rintro e wD ⟨rfl, kbwD⟩
      have bwD : Below w.heap.size w wD := bel_call kbwD (by (repeat' (first | (with_reducible exact bwC) | (with_reducible exact Below.refl _ _) | (with_reducible refine below_drewN _ ?_) | (with_reducible refine Below.drew ?_) | (with_reducible refine Below.alloc ?_ (by first | exact Nat.le_refl _ | omega | (have := bwC.size; simp; omega) | (simp; done)) _) | (with_reducible refine Below.setCell ?_ (by first | exact Nat.le_refl _ | omega | (have := bwC.size; simp; omega) | (simp; done)) _)))) (by first | exact Nat.le_refl _ | omega | (have := bwC.size; simp; omega) | (simp; done))
      have Za4 : wD.heap[wA.heap.size]? = some (.cells #[.int .u8 d, .int .u16 i, .int .u8 t, .int .u32 s, .int .u32 q, .int .u16 x, .int .u16 y] 66 (0, 0)) := blk_call kbwD (by (repeat' (first | (with_reducible exact Za3) | (with_reducible exact heap_alloc_new _ _) | (with_reducible exact blk_new (by first | (simp; done) | omega)) | (with_reducible refine blk_drew ?_) | (with_reducible apply put7_2) | (with_reducible refine blk_else (by omega) ?_) | (with_reducible refine blk_old ?_))))
      have Zc4 : wD.heap[wB.heap.size]? = some (.cells #[.int .u8 d, .int .u16 i, .int .u8 t, .int .u32 s, .int .u32 q, .int .u16 x, .int .u16 y] 66 (0, 0)) := blk_call kbwD (by (repeat' (first | (with_reducible exact Zc3) | (with_reducible exact heap_alloc_new _ _) | (with_reducible exact blk_new (by first | (simp; done) | omega)) | (with_reducible refine blk_drew ?_) | (with_reducible apply put7_2) | (with_reducible refine blk_else (by omega) ?_) | (with_reducible refine blk_old ?_))))
      clear Za3 za0 za1 za2 za3 za4 za5 za6 na_ ma_ la_ Zc3 zc0 zc1 zc2 zc3 zc4 zc5 zc6 nc_ mc_ lc_
      obtain ⟨za0, za1, za2, za3, za4, za5, za6, -⟩ := at7 Za4
      have na_ := ne_blk Za4
      have ma_ := Ne.symm na_
      have la_ := lt_blk Za4
      obtain ⟨zc0, zc1, zc2, zc3, zc4, zc5, zc6, -⟩ := at7 Zc4
      have nc_ := ne_blk Zc4
      have mc_ := Ne.symm nc_
      have lc_ := lt_blk Zc4
      clear kbwD
      go_wp2_with fail
      refine (H1.out _).mono ?_
      rintro e wE ⟨rfl, kbwE⟩
      have bwE : Below w.heap.size w wE := bel_call kbwE (by (repeat' (first | (with_reducible exact bwD) | (with_reducible exact Below.refl _ _) | (with_reducible refine below_drewN _ ?_) | (with_reducible refine Below.drew ?_) | (with_reducible refine Below.alloc ?_ (by first | exact Nat.le_refl _ | omega | (have := bwD.size; simp; omega) | (simp; done)) _) | (with_reducible refine Below.setCell ?_ (by first | exact Nat.le_refl _ | omega | (have := bwD.size; simp; omega) | (simp; done)) _)))) (by first | exact Nat.le_refl _ | omega | (have := bwD.size; simp; omega) | (simp; done))
      have Za5 : wE.heap[wA.heap.size]? = some (.cells #[.int .u8 d, .int .u16 i, .int .u8 t, .int .u32 s, .int .u32 q, .int .u16 x, .int .u16 y] 66 (0, 0)) := blk_call kbwE (by (repeat' (first | (with_reducible exact Za4) | (with_reducible exact heap_alloc_new _ _) | (with_reducible exact blk_new (by first | (simp; done) | omega)) | (with_reducible refine blk_drew ?_) | (with_reducible apply put7_2) | (with_reducible refine blk_else (by omega) ?_) | (with_reducible refine blk_old ?_))))
      have Zc5 : wE.heap[wB.heap.size]? = some (.cells #[.int .u8 d, .int .u16 i, .int .u8 t, .int .u32 s, .int .u32 q, .int .u16 x, .int .u16 y] 66 (0, 0)) := blk_call kbwE (by (repeat' (first | (with_reducible exact Zc4) | (with_reducible exact heap_alloc_new _ _) | (with_reducible exact blk_new (by first | (simp; done) | omega)) | (with_reducible refine blk_drew ?_) | (with_reducible apply put7_2) | (with_reducible refine blk_else (by omega) ?_) | (with_reducible refine blk_old ?_))))
      clear Za4 za0 za1 za2 za3 za4 za5 za6 na_ ma_ la_ Zc4 zc0 zc1 zc2 zc3 zc4 zc5 zc6 nc_ mc_ lc_
      obtain ⟨za0, za1, za2, za3, za4, za5, za6, -⟩ := at7 Za5
      have na_ := ne_blk Za5
      have ma_ := Ne.symm na_
      have la_ := lt_blk Za5
      obtain ⟨zc0, zc1, zc2, zc3, zc4, zc5, zc6, -⟩ := at7 Zc5
      have nc_ := ne_blk Zc5
      have mc_ := Ne.symm nc_
      have lc_ := lt_blk Zc5
      clear kbwE
      go_wp2_with fail
      refine (H2.out _).mono ?_
      rintro e wF ⟨rfl, kbwF⟩
      have bwF : Below w.heap.size w wF := bel_call kbwF (by (repeat' (first | (with_reducible exact bwE) | (with_reducible exact Below.refl _ _) | (with_reducible refine below_drewN _ ?_) | (with_reducible refine Below.drew ?_) | (with_reducible refine Below.alloc ?_ (by first | exact Nat.le_refl _ | omega | (have := bwE.size; simp; omega) | (simp; done)) _) | (with_reducible refine Below.setCell ?_ (by first | exact Nat.le_refl _ | omega | (have := bwE.size; simp; omega) | (simp; done)) _)))) (by first | exact Nat.le_refl _ | omega | (have := bwE.size; simp; omega) | (simp; done))
      have Za6 : wF.heap[wA.heap.size]? = some (.cells #[.int .u8 d, .int .u16 i, .int .u8 t, .int .u32 s, .int .u32 q, .int .u16 x, .int .u16 y] 66 (0, 0)) := blk_call kbwF (by (repeat' (first | (with_reducible exact Za5) | (with_reducible exact heap_alloc_new _ _) | (with_reducible exact blk_new (by first | (simp; done) | omega)) | (with_reducible refine blk_drew ?_) | (with_reducible apply put7_2) | (with_reducible refine blk_else (by omega) ?_) | (with_reducible refine blk_old ?_))))
      have Zc6 : wF.heap[wB.heap.size]? = some (.cells #[.int .u8 d, .int .u16 i, .int .u8 t, .int .u32 s, .int .u32 q, .int .u16 x, .int .u16 y] 66 (0, 0)) := blk_call kbwF (by (repeat' (first | (with_reducible exact Zc5) | (with_reducible exact heap_alloc_new _ _) | (with_reducible exact blk_new (by first | (simp; done) | omega)) | (with_reducible refine blk_drew ?_) | (with_reducible apply put7_2) | (with_reducible refine blk_else (by omega) ?_) | (with_reducible refine blk_old ?_))))
      clear Za5 za0 za1 za2 za3 za4 za5 za6 na_ ma_ la_ Zc5 zc0 zc1 zc2 zc3 zc4 zc5 zc6 nc_ mc_ lc_
      obtain ⟨za0, za1, za2, za3, za4, za5, za6, -⟩ := at7 Za6
      have na_ := ne_blk Za6
      have ma_ := Ne.symm na_
      have la_ := lt_blk Za6
      obtain ⟨zc0, zc1, zc2, zc3, zc4, zc5, zc6, -⟩ := at7 Zc6
      have nc_ := ne_blk Zc6
      have mc_ := Ne.symm nc_
      have lc_ := lt_blk Zc6
      clear kbwF
      go_wp2_with fail
      refine (LV.out _).mono ?_
      rintro e wL ⟨rfl, kbwL⟩
      have bwL : Below w.heap.size w wL := bel_call kbwL (by (repeat' (first | (with_reducible exact bwF) | (with_reducible exact Below.refl _ _) | (with_reducible refine below_drewN _ ?_) | (with_reducible refine Below.drew ?_) | (with_reducible refine Below.alloc ?_ (by first | exact Nat.le_refl _ | omega | (have := bwF.size; simp; omega) | (simp; done)) _) | (with_reducible refine Below.setCell ?_ (by first | exact Nat.le_refl _ | omega | (have := bwF.size; simp; omega) | (simp; done)) _)))) (by first | exact Nat.le_refl _ | omega | (have := bwF.size; simp; omega) | (simp; done))
      have Za7 : wL.heap[wA.heap.size]? = some (.cells #[.int .u8 d, .int .u16 i, .int .u8 t, .int .u32 s, .int .u32 q, .int .u16 x, .int .u16 y] 66 (0, 0)) := blk_call kbwL (by (repeat' (first | (with_reducible exact Za6) | (with_reducible exact heap_alloc_new _ _) | (with_reducible exact blk_new (by first | (simp; done) | omega)) | (with_reducible refine blk_drew ?_) | (with_reducible apply put7_2) | (with_reducible refine blk_else (by omega) ?_) | (with_reducible refine blk_old ?_))))
      have Zc7 : wL.heap[wB.heap.size]? = some (.cells #[.int .u8 d, .int .u16 i, .int .u8 t, .int .u32 s, .int .u32 q, .int .u16 x, .int .u16 y] 66 (0, 0)) := blk_call kbwL (by (repeat' (first | (with_reducible exact Zc6) | (with_reducible exact heap_alloc_new _ _) | (with_reducible exact blk_new (by first | (simp; done) | omega)) | (with_reducible refine blk_drew ?_) | (with_reducible apply put7_2) | (with_reducible refine blk_else (by omega) ?_) | (with_reducible refine blk_old ?_))))
      clear Za6 za0 za1 za2 za3 za4 za5 za6 na_ ma_ la_ Zc6 zc0 zc1 zc2 zc3 zc4 zc5 zc6 nc_ mc_ lc_
      obtain ⟨za0, za1, za2, za3, za4, za5, za6, -⟩ := at7 Za7
      have na_ := ne_blk Za7
      have ma_ := Ne.symm na_
      have la_ := lt_blk Za7
      obtain ⟨zc0, zc1, zc2, zc3, zc4, zc5, zc6, -⟩ := at7 Zc7
      have nc_ := ne_blk Zc7
      have mc_ := Ne.symm nc_
      have lc_ := lt_blk Zc7
      clear kbwL
      go_wp2
      go_ret
      exact ⟨rfl, bwL⟩
end Go.Proofs.Ytiaafpemhalmpaa
