/-
  Layer 31: the law on two prefixes, case by case: both are right, walked: true for any arguments. What the library's variables hold is handed on.
-/
import Derived.Test.YtffedahmakhjeaaDoorAdr12
import Derived.Deep.CutBlock
import Derived.Deep.DeepCutAuto
namespace Go.Proofs.YtffedahmakhjeaaDoor
set_option linter.unusedVariables false
set_option linter.unusedSimpArgs false
open Go.ChangeShapes Go.WideShapes Go.ChangeAt Go.RowKit
attribute [local go_sem] alloc_drewN setCell_drewN

set_option maxRecDepth 100000 in
set_option maxHeartbeats 2000000 in
theorem apart_TFTT (a : Int) (a0 : 0 ≤ a) (a1 : a ≤ 4294967295) (n : Int) (n0 : -9223372036854775808 ≤ n) (n1 : n ≤ 9223372036854775807) (b : Int) (b0 : 0 ≤ b) (b1 : b ≤ 4294967295) (m : Int) (m0 : -9223372036854775808 ≤ m) (m1 : m ≤ 9223372036854775807) (x : Int) (x0 : 0 ≤ x) (x1 : x ≤ 4294967295) (hp : RtP a n) (hq : RtP b m) (h1 : CvP a n b m) (hA : HsP a n x) (hB : HsP b m x) (w : World) (H : Held31 w) :
    Calls Tryd.prog 6 #[.agg #[.int .u32 a, .int .i64 n], .agg #[.int .u32 b, .int .i64 m], .int .u32 x] w fun e w' => e = .returned (.bool true) ∧ Below w.heap.size w w' := by
  have RP : Hid (∀ W, Calls Tryd.prog 16 #[.agg #[.int .u32 a, .int .i64 n]] W fun e w' => e = .returned (.bool true) ∧ Below W.heap.size W w') := Lib.hid (fun W => by
    have := right_any a n a0 a1 n0 n1 W
    rw [decide_eq_true hp] at this
    exact this)
  have RQ : Hid (∀ W, Calls Tryd.prog 16 #[.agg #[.int .u32 b, .int .i64 m]] W fun e w' => e = .returned (.bool true) ∧ Below W.heap.size W w') := Lib.hid (fun W => by
    have := right_any b m b0 b1 m0 m1 W
    rw [decide_eq_true hq] at this
    exact this)
  have CPQ : Hid (∀ W, Calls Tryd.prog 20 #[.agg #[.int .u32 a, .int .i64 n], .agg #[.int .u32 b, .int .i64 m]] W fun e w' => e = .returned (.bool true) ∧ Below W.heap.size W w') := Lib.hid (fun W => by
    have := covers_any a n a0 a1 n0 n1 b m b0 b1 m0 m1 W
    rw [decide_eq_true h1] at this
    exact this)
  have HP : Hid (∀ W, Calls Tryd.prog 18 #[.agg #[.int .u32 a, .int .i64 n], .int .u32 x] W fun e w' => e = .returned (.bool true) ∧ Below W.heap.size W w') := Lib.hid (fun W => by
    have := has_any a n x a0 a1 n0 n1 x0 x1 W
    rw [decide_eq_true hA] at this
    exact this)
  have HQ : Hid (∀ W, Calls Tryd.prog 18 #[.agg #[.int .u32 b, .int .i64 m], .int .u32 x] W fun e w' => e = .returned (.bool true) ∧ Below W.heap.size W w') := Lib.hid (fun W => by
    have := has_any b m x b0 b1 m0 m1 x0 x1 W
    rw [decide_eq_true hB] at this
    exact this)
  have hh := high_le hp a0 a1
  have pp := pw_pos n
  have HL : 0 ≤ a + ((pw n : Int) - 1) := by omega
  have PL : Hid (∀ W, Calls Tryd.prog 18 #[.agg #[.int .u32 a, .int .i64 n], .int .u32 a] W fun e w' => e = .returned (.bool true) ∧ Below W.heap.size W w') := Lib.hid (fun W => by
    have := has_any a n a a0 a1 n0 n1 a0 a1 W
    rw [decide_eq_true (has_low hp)] at this
    exact this)
  have PH : Hid (∀ W, Calls Tryd.prog 18 #[.agg #[.int .u32 a, .int .i64 n], .int .u32 (a + ((pw n : Int) - 1))] W fun e w' => e = .returned (.bool true) ∧ Below W.heap.size W w') := Lib.hid (fun W => by
    have := has_any a n (a + ((pw n : Int) - 1)) a0 a1 n0 n1 HL hh W
    rw [decide_eq_true (has_high hp)] at this
    exact this)
  have MK := Lib.hid (fun W => mask_any n n0 n1 W)
  rw [mk31_at hp.1] at MK
  have ex : bits .or .u32 a (bits .xor .u32 (if IntKind.u32.signed = true then -1 else IntKind.u32.max) (4294967296 - (pw n : Int))) = a + ((pw n : Int) - 1) := by
    rw [show (if IntKind.u32.signed = true then (-1 : Int) else IntKind.u32.max) = 4294967295 from rfl, show bits .xor .u32 4294967295 (4294967296 - (pw n : Int)) = (pw n : Int) - 1 from xor_mask (32 - n).toNat (by have := hp.1.1; omega)]
    exact bits_join .u32 32 (by decide) (fun z z0 z1 => by rw [IntKind.wrap_u32]; omega) (32 - n).toNat a ((pw n : Int) - 1) a0 (by have := hp.2; unfold pw at this; simpa using this) (by omega) (by omega) (by unfold pw; simp; omega) (by have := pw_le n hp.1.1; omega)
  generalize a + ((pw n : Int) - 1) = HI at *
  generalize 4294967296 - (pw n : Int) = MM at *
  clear hh HL pp
  have EX := Lib.hid ex
  clear ex
  have LV : Hid (∀ W, Below w.heap.size w W → Calls Tryd.prog 7 #[] W fun e w' => e = .returned (.bool true) ∧ Below W.heap.size W w') := Lib.hid (fun W hW => lives31 W (H.below hW))
  have B0 : Below w.heap.size w w := Below.refl _ _
  clear H
  go_enter Tryd.func6, Tryd.ntmps6
  go_wp2_with fail
  refine (RP.out _).mono ?_
  rintro e vA ⟨rfl, kbvA⟩
  have bvA : Below w.heap.size w vA := bel_call kbvA (by (repeat' (first | (with_reducible exact B0) | (with_reducible exact Below.refl _ _) | (with_reducible refine below_drewN _ ?_) | (with_reducible refine Below.drew ?_) | (with_reducible refine Below.alloc ?_ (by first | exact Nat.le_refl _ | omega | (have := B0.size; simp; omega) | (simp; done)) _)))) (by first | exact Nat.le_refl _ | omega | (have := B0.size; simp; omega) | (simp; done))
  have Zp1 : vA.heap[w.heap.size]? = some (.cells #[.int .u32 a, .int .i64 n] 30 (0, 0)) := blk_call kbvA (by (repeat' (first | (with_reducible exact heap_alloc_new _ _) | (with_reducible exact blk_new (by first | (simp; done) | omega)) | (with_reducible refine blk_drewN' ?_) | (with_reducible refine blk_drew ?_) | (with_reducible refine blk_old ?_))))
  have Zq1 : vA.heap[w.heap.size + 1]? = some (.cells #[.int .u32 b, .int .i64 m] 30 (0, 0)) := blk_call kbvA (by (repeat' (first | (with_reducible exact heap_alloc_new _ _) | (with_reducible exact blk_new (by first | (simp; done) | omega)) | (with_reducible refine blk_drewN' ?_) | (with_reducible refine blk_drew ?_) | (with_reducible refine blk_old ?_))))
  obtain ⟨zp0, zp1, -⟩ := at2 Zp1
  obtain ⟨zq0, zq1, -⟩ := at2 Zq1
  clear kbvA
  go_wp2_with fail
  refine (RQ.out _).mono ?_
  rintro e vB ⟨rfl, kbvB⟩
  have bvB : Below w.heap.size w vB := bel_call kbvB (by (repeat' (first | (with_reducible exact bvA) | (with_reducible exact Below.refl _ _) | (with_reducible refine below_drewN _ ?_) | (with_reducible refine Below.drew ?_) | (with_reducible refine Below.alloc ?_ (by first | exact Nat.le_refl _ | omega | (have := bvA.size; simp; omega) | (simp; done)) _)))) (by first | exact Nat.le_refl _ | omega | (have := bvA.size; simp; omega) | (simp; done))
  have Zp2 : vB.heap[w.heap.size]? = some (.cells #[.int .u32 a, .int .i64 n] 30 (0, 0)) := blk_call kbvB (by (repeat' (first | (with_reducible exact Zp1) | (with_reducible exact heap_alloc_new _ _) | (with_reducible exact blk_new (by first | (simp; done) | omega)) | (with_reducible refine blk_drewN' ?_) | (with_reducible refine blk_drew ?_) | (with_reducible refine blk_old ?_))))
  have Zq2 : vB.heap[w.heap.size + 1]? = some (.cells #[.int .u32 b, .int .i64 m] 30 (0, 0)) := blk_call kbvB (by (repeat' (first | (with_reducible exact Zq1) | (with_reducible exact heap_alloc_new _ _) | (with_reducible exact blk_new (by first | (simp; done) | omega)) | (with_reducible refine blk_drewN' ?_) | (with_reducible refine blk_drew ?_) | (with_reducible refine blk_old ?_))))
  clear Zp1 zp0 zp1 Zq1 zq0 zq1
  obtain ⟨zp0, zp1, -⟩ := at2 Zp2
  obtain ⟨zq0, zq1, -⟩ := at2 Zq2
  clear kbvB
  go_wp2_with fail
  refine (CPQ.out _).mono ?_
  rintro e vC ⟨rfl, kbvC⟩
  have bvC : Below w.heap.size w vC := bel_call kbvC (by (repeat' (first | (with_reducible exact bvB) | (with_reducible exact Below.refl _ _) | (with_reducible refine below_drewN _ ?_) | (with_reducible refine Below.drew ?_) | (with_reducible refine Below.alloc ?_ (by first | exact Nat.le_refl _ | omega | (have := bvB.size; simp; omega) | (simp; done)) _)))) (by first | exact Nat.le_refl _ | omega | (have := bvB.size; simp; omega) | (simp; done))
  have Zp3 : vC.heap[w.heap.size]? = some (.cells #[.int .u32 a, .int .i64 n] 30 (0, 0)) := blk_call kbvC (by (repeat' (first | (with_reducible exact Zp2) | (with_reducible exact heap_alloc_new _ _) | (with_reducible exact blk_new (by first | (simp; done) | omega)) | (with_reducible refine blk_drewN' ?_) | (with_reducible refine blk_drew ?_) | (with_reducible refine blk_old ?_))))
  have Zq3 : vC.heap[w.heap.size + 1]? = some (.cells #[.int .u32 b, .int .i64 m] 30 (0, 0)) := blk_call kbvC (by (repeat' (first | (with_reducible exact Zq2) | (with_reducible exact heap_alloc_new _ _) | (with_reducible exact blk_new (by first | (simp; done) | omega)) | (with_reducible refine blk_drewN' ?_) | (with_reducible refine blk_drew ?_) | (with_reducible refine blk_old ?_))))
  clear Zp2 zp0 zp1 Zq2 zq0 zq1
  obtain ⟨zp0, zp1, -⟩ := at2 Zp3
  obtain ⟨zq0, zq1, -⟩ := at2 Zq3
  clear kbvC
  go_wp2_with fail
  refine (HP.out _).mono ?_
  rintro e vD ⟨rfl, kbvD⟩
  have bvD : Below w.heap.size w vD := bel_call kbvD (by (repeat' (first | (with_reducible exact bvC) | (with_reducible exact Below.refl _ _) | (with_reducible refine below_drewN _ ?_) | (with_reducible refine Below.drew ?_) | (with_reducible refine Below.alloc ?_ (by first | exact Nat.le_refl _ | omega | (have := bvC.size; simp; omega) | (simp; done)) _)))) (by first | exact Nat.le_refl _ | omega | (have := bvC.size; simp; omega) | (simp; done))
  have Zp4 : vD.heap[w.heap.size]? = some (.cells #[.int .u32 a, .int .i64 n] 30 (0, 0)) := blk_call kbvD (by (repeat' (first | (with_reducible exact Zp3) | (with_reducible exact heap_alloc_new _ _) | (with_reducible exact blk_new (by first | (simp; done) | omega)) | (with_reducible refine blk_drewN' ?_) | (with_reducible refine blk_drew ?_) | (with_reducible refine blk_old ?_))))
  have Zq4 : vD.heap[w.heap.size + 1]? = some (.cells #[.int .u32 b, .int .i64 m] 30 (0, 0)) := blk_call kbvD (by (repeat' (first | (with_reducible exact Zq3) | (with_reducible exact heap_alloc_new _ _) | (with_reducible exact blk_new (by first | (simp; done) | omega)) | (with_reducible refine blk_drewN' ?_) | (with_reducible refine blk_drew ?_) | (with_reducible refine blk_old ?_))))
  clear Zp3 zp0 zp1 Zq3 zq0 zq1
  obtain ⟨zp0, zp1, -⟩ := at2 Zp4
  obtain ⟨zq0, zq1, -⟩ := at2 Zq4
  clear kbvD
  go_wp2_with fail
  refine (HQ.out _).mono ?_
  rintro e vE ⟨rfl, kbvE⟩
  have bvE : Below w.heap.size w vE := bel_call kbvE (by (repeat' (first | (with_reducible exact bvD) | (with_reducible exact Below.refl _ _) | (with_reducible refine below_drewN _ ?_) | (with_reducible refine Below.drew ?_) | (with_reducible refine Below.alloc ?_ (by first | exact Nat.le_refl _ | omega | (have := bvD.size; simp; omega) | (simp; done)) _)))) (by first | exact Nat.le_refl _ | omega | (have := bvD.size; simp; omega) | (simp; done))
  have Zp5 : vE.heap[w.heap.size]? = some (.cells #[.int .u32 a, .int .i64 n] 30 (0, 0)) := blk_call kbvE (by (repeat' (first | (with_reducible exact Zp4) | (with_reducible exact heap_alloc_new _ _) | (with_reducible exact blk_new (by first | (simp; done) | omega)) | (with_reducible refine blk_drewN' ?_) | (with_reducible refine blk_drew ?_) | (with_reducible refine blk_old ?_))))
  have Zq5 : vE.heap[w.heap.size + 1]? = some (.cells #[.int .u32 b, .int .i64 m] 30 (0, 0)) := blk_call kbvE (by (repeat' (first | (with_reducible exact Zq4) | (with_reducible exact heap_alloc_new _ _) | (with_reducible exact blk_new (by first | (simp; done) | omega)) | (with_reducible refine blk_drewN' ?_) | (with_reducible refine blk_drew ?_) | (with_reducible refine blk_old ?_))))
  clear Zp4 zp0 zp1 Zq4 zq0 zq1
  obtain ⟨zp0, zp1, -⟩ := at2 Zp5
  obtain ⟨zq0, zq1, -⟩ := at2 Zq5
  clear kbvE
  go_wp2_with fail
  refine (CPQ.out _).mono ?_
  rintro e vF ⟨rfl, kbvF⟩
  have bvF : Below w.heap.size w vF := bel_call kbvF (by (repeat' (first | (with_reducible exact bvE) | (with_reducible exact Below.refl _ _) | (with_reducible refine below_drewN _ ?_) | (with_reducible refine Below.drew ?_) | (with_reducible refine Below.alloc ?_ (by first | exact Nat.le_refl _ | omega | (have := bvE.size; simp; omega) | (simp; done)) _)))) (by first | exact Nat.le_refl _ | omega | (have := bvE.size; simp; omega) | (simp; done))
  have Zp6 : vF.heap[w.heap.size]? = some (.cells #[.int .u32 a, .int .i64 n] 30 (0, 0)) := blk_call kbvF (by (repeat' (first | (with_reducible exact Zp5) | (with_reducible exact heap_alloc_new _ _) | (with_reducible exact blk_new (by first | (simp; done) | omega)) | (with_reducible refine blk_drewN' ?_) | (with_reducible refine blk_drew ?_) | (with_reducible refine blk_old ?_))))
  have Zq6 : vF.heap[w.heap.size + 1]? = some (.cells #[.int .u32 b, .int .i64 m] 30 (0, 0)) := blk_call kbvF (by (repeat' (first | (with_reducible exact Zq5) | (with_reducible exact heap_alloc_new _ _) | (with_reducible exact blk_new (by first | (simp; done) | omega)) | (with_reducible refine blk_drewN' ?_) | (with_reducible refine blk_drew ?_) | (with_reducible refine blk_old ?_))))
  clear Zp5 zp0 zp1 Zq5 zq0 zq1
  obtain ⟨zp0, zp1, -⟩ := at2 Zp6
  obtain ⟨zq0, zq1, -⟩ := at2 Zq6
  clear kbvF
  go_wp2_with fail
  refine (HQ.out _).mono ?_
  rintro e vG ⟨rfl, kbvG⟩
  have bvG : Below w.heap.size w vG := bel_call kbvG (by (repeat' (first | (with_reducible exact bvF) | (with_reducible exact Below.refl _ _) | (with_reducible refine below_drewN _ ?_) | (with_reducible refine Below.drew ?_) | (with_reducible refine Below.alloc ?_ (by first | exact Nat.le_refl _ | omega | (have := bvF.size; simp; omega) | (simp; done)) _)))) (by first | exact Nat.le_refl _ | omega | (have := bvF.size; simp; omega) | (simp; done))
  have Zp7 : vG.heap[w.heap.size]? = some (.cells #[.int .u32 a, .int .i64 n] 30 (0, 0)) := blk_call kbvG (by (repeat' (first | (with_reducible exact Zp6) | (with_reducible exact heap_alloc_new _ _) | (with_reducible exact blk_new (by first | (simp; done) | omega)) | (with_reducible refine blk_drewN' ?_) | (with_reducible refine blk_drew ?_) | (with_reducible refine blk_old ?_))))
  have Zq7 : vG.heap[w.heap.size + 1]? = some (.cells #[.int .u32 b, .int .i64 m] 30 (0, 0)) := blk_call kbvG (by (repeat' (first | (with_reducible exact Zq6) | (with_reducible exact heap_alloc_new _ _) | (with_reducible exact blk_new (by first | (simp; done) | omega)) | (with_reducible refine blk_drewN' ?_) | (with_reducible refine blk_drew ?_) | (with_reducible refine blk_old ?_))))
  clear Zp6 zp0 zp1 Zq6 zq0 zq1
  obtain ⟨zp0, zp1, -⟩ := at2 Zp7
  obtain ⟨zq0, zq1, -⟩ := at2 Zq7
  clear kbvG
  go_wp2_with fail
  refine (HP.out _).mono ?_
  rintro e vH ⟨rfl, kbvH⟩
  have bvH : Below w.heap.size w vH := bel_call kbvH (by (repeat' (first | (with_reducible exact bvG) | (with_reducible exact Below.refl _ _) | (with_reducible refine below_drewN _ ?_) | (with_reducible refine Below.drew ?_) | (with_reducible refine Below.alloc ?_ (by first | exact Nat.le_refl _ | omega | (have := bvG.size; simp; omega) | (simp; done)) _)))) (by first | exact Nat.le_refl _ | omega | (have := bvG.size; simp; omega) | (simp; done))
  have Zp8 : vH.heap[w.heap.size]? = some (.cells #[.int .u32 a, .int .i64 n] 30 (0, 0)) := blk_call kbvH (by (repeat' (first | (with_reducible exact Zp7) | (with_reducible exact heap_alloc_new _ _) | (with_reducible exact blk_new (by first | (simp; done) | omega)) | (with_reducible refine blk_drewN' ?_) | (with_reducible refine blk_drew ?_) | (with_reducible refine blk_old ?_))))
  have Zq8 : vH.heap[w.heap.size + 1]? = some (.cells #[.int .u32 b, .int .i64 m] 30 (0, 0)) := blk_call kbvH (by (repeat' (first | (with_reducible exact Zq7) | (with_reducible exact heap_alloc_new _ _) | (with_reducible exact blk_new (by first | (simp; done) | omega)) | (with_reducible refine blk_drewN' ?_) | (with_reducible refine blk_drew ?_) | (with_reducible refine blk_old ?_))))
  clear Zp7 zp0 zp1 Zq7 zq0 zq1
  obtain ⟨zp0, zp1, -⟩ := at2 Zp8
  obtain ⟨zq0, zq1, -⟩ := at2 Zq8
  clear kbvH
  go_upto_region 7 with (fail)
  have SC := Lib.hid (fun (v : World) (h : Below vH.heap.size vH v) => (box2 ((h.block _ (lt_blk Zp8)).trans Zp8) : v.cell? ⟨w.heap.size, 0, none⟩ = some (.int .u32 a) ∧ v.cell? ⟨w.heap.size, 1, none⟩ = some (.int .i64 n)))
  go_region_held3 (fun v => v.cell? ⟨w.heap.size, 0, none⟩ = some (.int .u32 a) ∧ v.cell? ⟨w.heap.size, 1, none⟩ = some (.int .i64 n))
    ((first | exact SC.out _ (by (repeat' (first | (with_reducible exact Below.refl _ _) | (with_reducible refine below_drewN _ ?_) | (with_reducible refine Below.drew ?_))))))
    (first | (go_at_call 22; refine (MK.out _).mono ?_; rintro e' u' ⟨rfl, rfl⟩) | fail)
  clear SC
  rw [EX.out]
  clear EX
  go_wp2_with fail
  refine (PL.out _).mono ?_
  rintro e vI ⟨rfl, kbvI⟩
  have bvI : Below w.heap.size w vI := bel_call kbvI (by (repeat' (first | (with_reducible exact bvH) | (with_reducible exact Below.refl _ _) | (with_reducible refine below_drewN _ ?_) | (with_reducible refine Below.drew ?_) | (with_reducible refine Below.alloc ?_ (by first | exact Nat.le_refl _ | omega | (have := bvH.size; simp; omega) | (simp; done)) _)))) (by first | exact Nat.le_refl _ | omega | (have := bvH.size; simp; omega) | (simp; done))
  have Zp9 : vI.heap[w.heap.size]? = some (.cells #[.int .u32 a, .int .i64 n] 30 (0, 0)) := blk_call kbvI (by (repeat' (first | (with_reducible exact Zp8) | (with_reducible exact heap_alloc_new _ _) | (with_reducible exact blk_new (by first | (simp; done) | omega)) | (with_reducible refine blk_drewN' ?_) | (with_reducible refine blk_drew ?_) | (with_reducible refine blk_old ?_))))
  have Zq9 : vI.heap[w.heap.size + 1]? = some (.cells #[.int .u32 b, .int .i64 m] 30 (0, 0)) := blk_call kbvI (by (repeat' (first | (with_reducible exact Zq8) | (with_reducible exact heap_alloc_new _ _) | (with_reducible exact blk_new (by first | (simp; done) | omega)) | (with_reducible refine blk_drewN' ?_) | (with_reducible refine blk_drew ?_) | (with_reducible refine blk_old ?_))))
  clear Zp8 zp0 zp1 Zq8 zq0 zq1
  obtain ⟨zp0, zp1, -⟩ := at2 Zp9
  obtain ⟨zq0, zq1, -⟩ := at2 Zq9
  clear kbvI
  go_wp2_with fail
  refine (PH.out _).mono ?_
  rintro e vJ ⟨rfl, kbvJ⟩
  have bvJ : Below w.heap.size w vJ := bel_call kbvJ (by (repeat' (first | (with_reducible exact bvI) | (with_reducible exact Below.refl _ _) | (with_reducible refine below_drewN _ ?_) | (with_reducible refine Below.drew ?_) | (with_reducible refine Below.alloc ?_ (by first | exact Nat.le_refl _ | omega | (have := bvI.size; simp; omega) | (simp; done)) _)))) (by first | exact Nat.le_refl _ | omega | (have := bvI.size; simp; omega) | (simp; done))
  have Zp10 : vJ.heap[w.heap.size]? = some (.cells #[.int .u32 a, .int .i64 n] 30 (0, 0)) := blk_call kbvJ (by (repeat' (first | (with_reducible exact Zp9) | (with_reducible exact heap_alloc_new _ _) | (with_reducible exact blk_new (by first | (simp; done) | omega)) | (with_reducible refine blk_drewN' ?_) | (with_reducible refine blk_drew ?_) | (with_reducible refine blk_old ?_))))
  have Zq10 : vJ.heap[w.heap.size + 1]? = some (.cells #[.int .u32 b, .int .i64 m] 30 (0, 0)) := blk_call kbvJ (by (repeat' (first | (with_reducible exact Zq9) | (with_reducible exact heap_alloc_new _ _) | (with_reducible exact blk_new (by first | (simp; done) | omega)) | (with_reducible refine blk_drewN' ?_) | (with_reducible refine blk_drew ?_) | (with_reducible refine blk_old ?_))))
  clear Zp9 zp0 zp1 Zq9 zq0 zq1
  obtain ⟨zp0, zp1, -⟩ := at2 Zp10
  obtain ⟨zq0, zq1, -⟩ := at2 Zq10
  clear kbvJ
  go_wp2_with fail
  refine (LV.out _ (by (repeat' (first | (with_reducible exact bvJ) | (with_reducible exact Below.refl _ _) | (with_reducible refine below_drewN _ ?_) | (with_reducible refine Below.drew ?_) | (with_reducible refine Below.alloc ?_ (by first | exact Nat.le_refl _ | omega | (have := bvJ.size; simp; omega) | (simp; done)) _))))).mono ?_
  rintro e vK ⟨rfl, kbvK⟩
  have bvK : Below w.heap.size w vK := bel_call kbvK (by (repeat' (first | (with_reducible exact bvJ) | (with_reducible exact Below.refl _ _) | (with_reducible refine below_drewN _ ?_) | (with_reducible refine Below.drew ?_) | (with_reducible refine Below.alloc ?_ (by first | exact Nat.le_refl _ | omega | (have := bvJ.size; simp; omega) | (simp; done)) _)))) (by first | exact Nat.le_refl _ | omega | (have := bvJ.size; simp; omega) | (simp; done))
  have Zp11 : vK.heap[w.heap.size]? = some (.cells #[.int .u32 a, .int .i64 n] 30 (0, 0)) := blk_call kbvK (by (repeat' (first | (with_reducible exact Zp10) | (with_reducible exact heap_alloc_new _ _) | (with_reducible exact blk_new (by first | (simp; done) | omega)) | (with_reducible refine blk_drewN' ?_) | (with_reducible refine blk_drew ?_) | (with_reducible refine blk_old ?_))))
  have Zq11 : vK.heap[w.heap.size + 1]? = some (.cells #[.int .u32 b, .int .i64 m] 30 (0, 0)) := blk_call kbvK (by (repeat' (first | (with_reducible exact Zq10) | (with_reducible exact heap_alloc_new _ _) | (with_reducible exact blk_new (by first | (simp; done) | omega)) | (with_reducible refine blk_drewN' ?_) | (with_reducible refine blk_drew ?_) | (with_reducible refine blk_old ?_))))
  clear Zp10 zp0 zp1 Zq10 zq0 zq1
  obtain ⟨zp0, zp1, -⟩ := at2 Zp11
  obtain ⟨zq0, zq1, -⟩ := at2 Zq11
  clear kbvK
  go_wp2
  go_ret
  exact ⟨rfl, bvK⟩
set_option maxRecDepth 100000 in
set_option maxHeartbeats 2000000 in
theorem apart_TFTF (a : Int) (a0 : 0 ≤ a) (a1 : a ≤ 4294967295) (n : Int) (n0 : -9223372036854775808 ≤ n) (n1 : n ≤ 9223372036854775807) (b : Int) (b0 : 0 ≤ b) (b1 : b ≤ 4294967295) (m : Int) (m0 : -9223372036854775808 ≤ m) (m1 : m ≤ 9223372036854775807) (x : Int) (x0 : 0 ≤ x) (x1 : x ≤ 4294967295) (hp : RtP a n) (hq : RtP b m) (h1 : CvP a n b m) (hA : HsP a n x) (hB : ¬ HsP b m x) (w : World) (H : Held31 w) :
    Calls Tryd.prog 6 #[.agg #[.int .u32 a, .int .i64 n], .agg #[.int .u32 b, .int .i64 m], .int .u32 x] w fun e w' => e = .returned (.bool true) ∧ Below w.heap.size w w' := by
  have RP : Hid (∀ W, Calls Tryd.prog 16 #[.agg #[.int .u32 a, .int .i64 n]] W fun e w' => e = .returned (.bool true) ∧ Below W.heap.size W w') := Lib.hid (fun W => by
    have := right_any a n a0 a1 n0 n1 W
    rw [decide_eq_true hp] at this
    exact this)
  have RQ : Hid (∀ W, Calls Tryd.prog 16 #[.agg #[.int .u32 b, .int .i64 m]] W fun e w' => e = .returned (.bool true) ∧ Below W.heap.size W w') := Lib.hid (fun W => by
    have := right_any b m b0 b1 m0 m1 W
    rw [decide_eq_true hq] at this
    exact this)
  have CPQ : Hid (∀ W, Calls Tryd.prog 20 #[.agg #[.int .u32 a, .int .i64 n], .agg #[.int .u32 b, .int .i64 m]] W fun e w' => e = .returned (.bool true) ∧ Below W.heap.size W w') := Lib.hid (fun W => by
    have := covers_any a n a0 a1 n0 n1 b m b0 b1 m0 m1 W
    rw [decide_eq_true h1] at this
    exact this)
  have HP : Hid (∀ W, Calls Tryd.prog 18 #[.agg #[.int .u32 a, .int .i64 n], .int .u32 x] W fun e w' => e = .returned (.bool true) ∧ Below W.heap.size W w') := Lib.hid (fun W => by
    have := has_any a n x a0 a1 n0 n1 x0 x1 W
    rw [decide_eq_true hA] at this
    exact this)
  have HQ : Hid (∀ W, Calls Tryd.prog 18 #[.agg #[.int .u32 b, .int .i64 m], .int .u32 x] W fun e w' => e = .returned (.bool false) ∧ Below W.heap.size W w') := Lib.hid (fun W => by
    have := has_any b m x b0 b1 m0 m1 x0 x1 W
    rw [decide_eq_false hB] at this
    exact this)
  have hh := high_le hp a0 a1
  have pp := pw_pos n
  have HL : 0 ≤ a + ((pw n : Int) - 1) := by omega
  have PL : Hid (∀ W, Calls Tryd.prog 18 #[.agg #[.int .u32 a, .int .i64 n], .int .u32 a] W fun e w' => e = .returned (.bool true) ∧ Below W.heap.size W w') := Lib.hid (fun W => by
    have := has_any a n a a0 a1 n0 n1 a0 a1 W
    rw [decide_eq_true (has_low hp)] at this
    exact this)
  have PH : Hid (∀ W, Calls Tryd.prog 18 #[.agg #[.int .u32 a, .int .i64 n], .int .u32 (a + ((pw n : Int) - 1))] W fun e w' => e = .returned (.bool true) ∧ Below W.heap.size W w') := Lib.hid (fun W => by
    have := has_any a n (a + ((pw n : Int) - 1)) a0 a1 n0 n1 HL hh W
    rw [decide_eq_true (has_high hp)] at this
    exact this)
  have MK := Lib.hid (fun W => mask_any n n0 n1 W)
  rw [mk31_at hp.1] at MK
  have ex : bits .or .u32 a (bits .xor .u32 (if IntKind.u32.signed = true then -1 else IntKind.u32.max) (4294967296 - (pw n : Int))) = a + ((pw n : Int) - 1) := by
    rw [show (if IntKind.u32.signed = true then (-1 : Int) else IntKind.u32.max) = 4294967295 from rfl, show bits .xor .u32 4294967295 (4294967296 - (pw n : Int)) = (pw n : Int) - 1 from xor_mask (32 - n).toNat (by have := hp.1.1; omega)]
    exact bits_join .u32 32 (by decide) (fun z z0 z1 => by rw [IntKind.wrap_u32]; omega) (32 - n).toNat a ((pw n : Int) - 1) a0 (by have := hp.2; unfold pw at this; simpa using this) (by omega) (by omega) (by unfold pw; simp; omega) (by have := pw_le n hp.1.1; omega)
  generalize a + ((pw n : Int) - 1) = HI at *
  generalize 4294967296 - (pw n : Int) = MM at *
  clear hh HL pp
  have EX := Lib.hid ex
  clear ex
  have LV : Hid (∀ W, Below w.heap.size w W → Calls Tryd.prog 7 #[] W fun e w' => e = .returned (.bool true) ∧ Below W.heap.size W w') := Lib.hid (fun W hW => lives31 W (H.below hW))
  have B0 : Below w.heap.size w w := Below.refl _ _
  clear H
  go_enter Tryd.func6, Tryd.ntmps6
  go_wp2_with fail
  refine (RP.out _).mono ?_
  rintro e vA ⟨rfl, kbvA⟩
  have bvA : Below w.heap.size w vA := bel_call kbvA (by (repeat' (first | (with_reducible exact B0) | (with_reducible exact Below.refl _ _) | (with_reducible refine below_drewN _ ?_) | (with_reducible refine Below.drew ?_) | (with_reducible refine Below.alloc ?_ (by first | exact Nat.le_refl _ | omega | (have := B0.size; simp; omega) | (simp; done)) _)))) (by first | exact Nat.le_refl _ | omega | (have := B0.size; simp; omega) | (simp; done))
  have Zp1 : vA.heap[w.heap.size]? = some (.cells #[.int .u32 a, .int .i64 n] 30 (0, 0)) := blk_call kbvA (by (repeat' (first | (with_reducible exact heap_alloc_new _ _) | (with_reducible exact blk_new (by first | (simp; done) | omega)) | (with_reducible refine blk_drewN' ?_) | (with_reducible refine blk_drew ?_) | (with_reducible refine blk_old ?_))))
  have Zq1 : vA.heap[w.heap.size + 1]? = some (.cells #[.int .u32 b, .int .i64 m] 30 (0, 0)) := blk_call kbvA (by (repeat' (first | (with_reducible exact heap_alloc_new _ _) | (with_reducible exact blk_new (by first | (simp; done) | omega)) | (with_reducible refine blk_drewN' ?_) | (with_reducible refine blk_drew ?_) | (with_reducible refine blk_old ?_))))
  obtain ⟨zp0, zp1, -⟩ := at2 Zp1
  obtain ⟨zq0, zq1, -⟩ := at2 Zq1
  clear kbvA
  go_wp2_with fail
  refine (RQ.out _).mono ?_
  rintro e vB ⟨rfl, kbvB⟩
  have bvB : Below w.heap.size w vB := bel_call kbvB (by (repeat' (first | (with_reducible exact bvA) | (with_reducible exact Below.refl _ _) | (with_reducible refine below_drewN _ ?_) | (with_reducible refine Below.drew ?_) | (with_reducible refine Below.alloc ?_ (by first | exact Nat.le_refl _ | omega | (have := bvA.size; simp; omega) | (simp; done)) _)))) (by first | exact Nat.le_refl _ | omega | (have := bvA.size; simp; omega) | (simp; done))
  have Zp2 : vB.heap[w.heap.size]? = some (.cells #[.int .u32 a, .int .i64 n] 30 (0, 0)) := blk_call kbvB (by (repeat' (first | (with_reducible exact Zp1) | (with_reducible exact heap_alloc_new _ _) | (with_reducible exact blk_new (by first | (simp; done) | omega)) | (with_reducible refine blk_drewN' ?_) | (with_reducible refine blk_drew ?_) | (with_reducible refine blk_old ?_))))
  have Zq2 : vB.heap[w.heap.size + 1]? = some (.cells #[.int .u32 b, .int .i64 m] 30 (0, 0)) := blk_call kbvB (by (repeat' (first | (with_reducible exact Zq1) | (with_reducible exact heap_alloc_new _ _) | (with_reducible exact blk_new (by first | (simp; done) | omega)) | (with_reducible refine blk_drewN' ?_) | (with_reducible refine blk_drew ?_) | (with_reducible refine blk_old ?_))))
  clear Zp1 zp0 zp1 Zq1 zq0 zq1
  obtain ⟨zp0, zp1, -⟩ := at2 Zp2
  obtain ⟨zq0, zq1, -⟩ := at2 Zq2
  clear kbvB
  go_wp2_with fail
  refine (CPQ.out _).mono ?_
  rintro e vC ⟨rfl, kbvC⟩
  have bvC : Below w.heap.size w vC := bel_call kbvC (by (repeat' (first | (with_reducible exact bvB) | (with_reducible exact Below.refl _ _) | (with_reducible refine below_drewN _ ?_) | (with_reducible refine Below.drew ?_) | (with_reducible refine Below.alloc ?_ (by first | exact Nat.le_refl _ | omega | (have := bvB.size; simp; omega) | (simp; done)) _)))) (by first | exact Nat.le_refl _ | omega | (have := bvB.size; simp; omega) | (simp; done))
  have Zp3 : vC.heap[w.heap.size]? = some (.cells #[.int .u32 a, .int .i64 n] 30 (0, 0)) := blk_call kbvC (by (repeat' (first | (with_reducible exact Zp2) | (with_reducible exact heap_alloc_new _ _) | (with_reducible exact blk_new (by first | (simp; done) | omega)) | (with_reducible refine blk_drewN' ?_) | (with_reducible refine blk_drew ?_) | (with_reducible refine blk_old ?_))))
  have Zq3 : vC.heap[w.heap.size + 1]? = some (.cells #[.int .u32 b, .int .i64 m] 30 (0, 0)) := blk_call kbvC (by (repeat' (first | (with_reducible exact Zq2) | (with_reducible exact heap_alloc_new _ _) | (with_reducible exact blk_new (by first | (simp; done) | omega)) | (with_reducible refine blk_drewN' ?_) | (with_reducible refine blk_drew ?_) | (with_reducible refine blk_old ?_))))
  clear Zp2 zp0 zp1 Zq2 zq0 zq1
  obtain ⟨zp0, zp1, -⟩ := at2 Zp3
  obtain ⟨zq0, zq1, -⟩ := at2 Zq3
  clear kbvC
  go_wp2_with fail
  refine (HP.out _).mono ?_
  rintro e vD ⟨rfl, kbvD⟩
  have bvD : Below w.heap.size w vD := bel_call kbvD (by (repeat' (first | (with_reducible exact bvC) | (with_reducible exact Below.refl _ _) | (with_reducible refine below_drewN _ ?_) | (with_reducible refine Below.drew ?_) | (with_reducible refine Below.alloc ?_ (by first | exact Nat.le_refl _ | omega | (have := bvC.size; simp; omega) | (simp; done)) _)))) (by first | exact Nat.le_refl _ | omega | (have := bvC.size; simp; omega) | (simp; done))
  have Zp4 : vD.heap[w.heap.size]? = some (.cells #[.int .u32 a, .int .i64 n] 30 (0, 0)) := blk_call kbvD (by (repeat' (first | (with_reducible exact Zp3) | (with_reducible exact heap_alloc_new _ _) | (with_reducible exact blk_new (by first | (simp; done) | omega)) | (with_reducible refine blk_drewN' ?_) | (with_reducible refine blk_drew ?_) | (with_reducible refine blk_old ?_))))
  have Zq4 : vD.heap[w.heap.size + 1]? = some (.cells #[.int .u32 b, .int .i64 m] 30 (0, 0)) := blk_call kbvD (by (repeat' (first | (with_reducible exact Zq3) | (with_reducible exact heap_alloc_new _ _) | (with_reducible exact blk_new (by first | (simp; done) | omega)) | (with_reducible refine blk_drewN' ?_) | (with_reducible refine blk_drew ?_) | (with_reducible refine blk_old ?_))))
  clear Zp3 zp0 zp1 Zq3 zq0 zq1
  obtain ⟨zp0, zp1, -⟩ := at2 Zp4
  obtain ⟨zq0, zq1, -⟩ := at2 Zq4
  clear kbvD
  go_wp2_with fail
  refine (HQ.out _).mono ?_
  rintro e vE ⟨rfl, kbvE⟩
  have bvE : Below w.heap.size w vE := bel_call kbvE (by (repeat' (first | (with_reducible exact bvD) | (with_reducible exact Below.refl _ _) | (with_reducible refine below_drewN _ ?_) | (with_reducible refine Below.drew ?_) | (with_reducible refine Below.alloc ?_ (by first | exact Nat.le_refl _ | omega | (have := bvD.size; simp; omega) | (simp; done)) _)))) (by first | exact Nat.le_refl _ | omega | (have := bvD.size; simp; omega) | (simp; done))
  have Zp5 : vE.heap[w.heap.size]? = some (.cells #[.int .u32 a, .int .i64 n] 30 (0, 0)) := blk_call kbvE (by (repeat' (first | (with_reducible exact Zp4) | (with_reducible exact heap_alloc_new _ _) | (with_reducible exact blk_new (by first | (simp; done) | omega)) | (with_reducible refine blk_drewN' ?_) | (with_reducible refine blk_drew ?_) | (with_reducible refine blk_old ?_))))
  have Zq5 : vE.heap[w.heap.size + 1]? = some (.cells #[.int .u32 b, .int .i64 m] 30 (0, 0)) := blk_call kbvE (by (repeat' (first | (with_reducible exact Zq4) | (with_reducible exact heap_alloc_new _ _) | (with_reducible exact blk_new (by first | (simp; done) | omega)) | (with_reducible refine blk_drewN' ?_) | (with_reducible refine blk_drew ?_) | (with_reducible refine blk_old ?_))))
  clear Zp4 zp0 zp1 Zq4 zq0 zq1
  obtain ⟨zp0, zp1, -⟩ := at2 Zp5
  obtain ⟨zq0, zq1, -⟩ := at2 Zq5
  clear kbvE
  go_wp2_with fail
  refine (CPQ.out _).mono ?_
  rintro e vF ⟨rfl, kbvF⟩
  have bvF : Below w.heap.size w vF := bel_call kbvF (by (repeat' (first | (with_reducible exact bvE) | (with_reducible exact Below.refl _ _) | (with_reducible refine below_drewN _ ?_) | (with_reducible refine Below.drew ?_) | (with_reducible refine Below.alloc ?_ (by first | exact Nat.le_refl _ | omega | (have := bvE.size; simp; omega) | (simp; done)) _)))) (by first | exact Nat.le_refl _ | omega | (have := bvE.size; simp; omega) | (simp; done))
  have Zp6 : vF.heap[w.heap.size]? = some (.cells #[.int .u32 a, .int .i64 n] 30 (0, 0)) := blk_call kbvF (by (repeat' (first | (with_reducible exact Zp5) | (with_reducible exact heap_alloc_new _ _) | (with_reducible exact blk_new (by first | (simp; done) | omega)) | (with_reducible refine blk_drewN' ?_) | (with_reducible refine blk_drew ?_) | (with_reducible refine blk_old ?_))))
  have Zq6 : vF.heap[w.heap.size + 1]? = some (.cells #[.int .u32 b, .int .i64 m] 30 (0, 0)) := blk_call kbvF (by (repeat' (first | (with_reducible exact Zq5) | (with_reducible exact heap_alloc_new _ _) | (with_reducible exact blk_new (by first | (simp; done) | omega)) | (with_reducible refine blk_drewN' ?_) | (with_reducible refine blk_drew ?_) | (with_reducible refine blk_old ?_))))
  clear Zp5 zp0 zp1 Zq5 zq0 zq1
  obtain ⟨zp0, zp1, -⟩ := at2 Zp6
  obtain ⟨zq0, zq1, -⟩ := at2 Zq6
  clear kbvF
  go_wp2_with fail
  refine (HQ.out _).mono ?_
  rintro e vG ⟨rfl, kbvG⟩
  have bvG : Below w.heap.size w vG := bel_call kbvG (by (repeat' (first | (with_reducible exact bvF) | (with_reducible exact Below.refl _ _) | (with_reducible refine below_drewN _ ?_) | (with_reducible refine Below.drew ?_) | (with_reducible refine Below.alloc ?_ (by first | exact Nat.le_refl _ | omega | (have := bvF.size; simp; omega) | (simp; done)) _)))) (by first | exact Nat.le_refl _ | omega | (have := bvF.size; simp; omega) | (simp; done))
  have Zp7 : vG.heap[w.heap.size]? = some (.cells #[.int .u32 a, .int .i64 n] 30 (0, 0)) := blk_call kbvG (by (repeat' (first | (with_reducible exact Zp6) | (with_reducible exact heap_alloc_new _ _) | (with_reducible exact blk_new (by first | (simp; done) | omega)) | (with_reducible refine blk_drewN' ?_) | (with_reducible refine blk_drew ?_) | (with_reducible refine blk_old ?_))))
  have Zq7 : vG.heap[w.heap.size + 1]? = some (.cells #[.int .u32 b, .int .i64 m] 30 (0, 0)) := blk_call kbvG (by (repeat' (first | (with_reducible exact Zq6) | (with_reducible exact heap_alloc_new _ _) | (with_reducible exact blk_new (by first | (simp; done) | omega)) | (with_reducible refine blk_drewN' ?_) | (with_reducible refine blk_drew ?_) | (with_reducible refine blk_old ?_))))
  clear Zp6 zp0 zp1 Zq6 zq0 zq1
  obtain ⟨zp0, zp1, -⟩ := at2 Zp7
  obtain ⟨zq0, zq1, -⟩ := at2 Zq7
  clear kbvG
  go_upto_region 7 with (fail)
  have SC := Lib.hid (fun (v : World) (h : Below vG.heap.size vG v) => (box2 ((h.block _ (lt_blk Zp7)).trans Zp7) : v.cell? ⟨w.heap.size, 0, none⟩ = some (.int .u32 a) ∧ v.cell? ⟨w.heap.size, 1, none⟩ = some (.int .i64 n)))
  go_region_held3 (fun v => v.cell? ⟨w.heap.size, 0, none⟩ = some (.int .u32 a) ∧ v.cell? ⟨w.heap.size, 1, none⟩ = some (.int .i64 n))
    ((first | exact SC.out _ (by (repeat' (first | (with_reducible exact Below.refl _ _) | (with_reducible refine below_drewN _ ?_) | (with_reducible refine Below.drew ?_))))))
    (first | (go_at_call 22; refine (MK.out _).mono ?_; rintro e' u' ⟨rfl, rfl⟩) | fail)
  clear SC
  rw [EX.out]
  clear EX
  go_wp2_with fail
  refine (PL.out _).mono ?_
  rintro e vH ⟨rfl, kbvH⟩
  have bvH : Below w.heap.size w vH := bel_call kbvH (by (repeat' (first | (with_reducible exact bvG) | (with_reducible exact Below.refl _ _) | (with_reducible refine below_drewN _ ?_) | (with_reducible refine Below.drew ?_) | (with_reducible refine Below.alloc ?_ (by first | exact Nat.le_refl _ | omega | (have := bvG.size; simp; omega) | (simp; done)) _)))) (by first | exact Nat.le_refl _ | omega | (have := bvG.size; simp; omega) | (simp; done))
  have Zp8 : vH.heap[w.heap.size]? = some (.cells #[.int .u32 a, .int .i64 n] 30 (0, 0)) := blk_call kbvH (by (repeat' (first | (with_reducible exact Zp7) | (with_reducible exact heap_alloc_new _ _) | (with_reducible exact blk_new (by first | (simp; done) | omega)) | (with_reducible refine blk_drewN' ?_) | (with_reducible refine blk_drew ?_) | (with_reducible refine blk_old ?_))))
  have Zq8 : vH.heap[w.heap.size + 1]? = some (.cells #[.int .u32 b, .int .i64 m] 30 (0, 0)) := blk_call kbvH (by (repeat' (first | (with_reducible exact Zq7) | (with_reducible exact heap_alloc_new _ _) | (with_reducible exact blk_new (by first | (simp; done) | omega)) | (with_reducible refine blk_drewN' ?_) | (with_reducible refine blk_drew ?_) | (with_reducible refine blk_old ?_))))
  clear Zp7 zp0 zp1 Zq7 zq0 zq1
  obtain ⟨zp0, zp1, -⟩ := at2 Zp8
  obtain ⟨zq0, zq1, -⟩ := at2 Zq8
  clear kbvH
  go_wp2_with fail
  refine (PH.out _).mono ?_
  rintro e vI ⟨rfl, kbvI⟩
  have bvI : Below w.heap.size w vI := bel_call kbvI (by (repeat' (first | (with_reducible exact bvH) | (with_reducible exact Below.refl _ _) | (with_reducible refine below_drewN _ ?_) | (with_reducible refine Below.drew ?_) | (with_reducible refine Below.alloc ?_ (by first | exact Nat.le_refl _ | omega | (have := bvH.size; simp; omega) | (simp; done)) _)))) (by first | exact Nat.le_refl _ | omega | (have := bvH.size; simp; omega) | (simp; done))
  have Zp9 : vI.heap[w.heap.size]? = some (.cells #[.int .u32 a, .int .i64 n] 30 (0, 0)) := blk_call kbvI (by (repeat' (first | (with_reducible exact Zp8) | (with_reducible exact heap_alloc_new _ _) | (with_reducible exact blk_new (by first | (simp; done) | omega)) | (with_reducible refine blk_drewN' ?_) | (with_reducible refine blk_drew ?_) | (with_reducible refine blk_old ?_))))
  have Zq9 : vI.heap[w.heap.size + 1]? = some (.cells #[.int .u32 b, .int .i64 m] 30 (0, 0)) := blk_call kbvI (by (repeat' (first | (with_reducible exact Zq8) | (with_reducible exact heap_alloc_new _ _) | (with_reducible exact blk_new (by first | (simp; done) | omega)) | (with_reducible refine blk_drewN' ?_) | (with_reducible refine blk_drew ?_) | (with_reducible refine blk_old ?_))))
  clear Zp8 zp0 zp1 Zq8 zq0 zq1
  obtain ⟨zp0, zp1, -⟩ := at2 Zp9
  obtain ⟨zq0, zq1, -⟩ := at2 Zq9
  clear kbvI
  go_wp2_with fail
  refine (LV.out _ (by (repeat' (first | (with_reducible exact bvI) | (with_reducible exact Below.refl _ _) | (with_reducible refine below_drewN _ ?_) | (with_reducible refine Below.drew ?_) | (with_reducible refine Below.alloc ?_ (by first | exact Nat.le_refl _ | omega | (have := bvI.size; simp; omega) | (simp; done)) _))))).mono ?_
  rintro e vJ ⟨rfl, kbvJ⟩
  have bvJ : Below w.heap.size w vJ := bel_call kbvJ (by (repeat' (first | (with_reducible exact bvI) | (with_reducible exact Below.refl _ _) | (with_reducible refine below_drewN _ ?_) | (with_reducible refine Below.drew ?_) | (with_reducible refine Below.alloc ?_ (by first | exact Nat.le_refl _ | omega | (have := bvI.size; simp; omega) | (simp; done)) _)))) (by first | exact Nat.le_refl _ | omega | (have := bvI.size; simp; omega) | (simp; done))
  have Zp10 : vJ.heap[w.heap.size]? = some (.cells #[.int .u32 a, .int .i64 n] 30 (0, 0)) := blk_call kbvJ (by (repeat' (first | (with_reducible exact Zp9) | (with_reducible exact heap_alloc_new _ _) | (with_reducible exact blk_new (by first | (simp; done) | omega)) | (with_reducible refine blk_drewN' ?_) | (with_reducible refine blk_drew ?_) | (with_reducible refine blk_old ?_))))
  have Zq10 : vJ.heap[w.heap.size + 1]? = some (.cells #[.int .u32 b, .int .i64 m] 30 (0, 0)) := blk_call kbvJ (by (repeat' (first | (with_reducible exact Zq9) | (with_reducible exact heap_alloc_new _ _) | (with_reducible exact blk_new (by first | (simp; done) | omega)) | (with_reducible refine blk_drewN' ?_) | (with_reducible refine blk_drew ?_) | (with_reducible refine blk_old ?_))))
  clear Zp9 zp0 zp1 Zq9 zq0 zq1
  obtain ⟨zp0, zp1, -⟩ := at2 Zp10
  obtain ⟨zq0, zq1, -⟩ := at2 Zq10
  clear kbvJ
  go_wp2
  go_ret
  exact ⟨rfl, bvJ⟩
set_option maxRecDepth 100000 in
set_option maxHeartbeats 2000000 in
theorem apart_TFFF (a : Int) (a0 : 0 ≤ a) (a1 : a ≤ 4294967295) (n : Int) (n0 : -9223372036854775808 ≤ n) (n1 : n ≤ 9223372036854775807) (b : Int) (b0 : 0 ≤ b) (b1 : b ≤ 4294967295) (m : Int) (m0 : -9223372036854775808 ≤ m) (m1 : m ≤ 9223372036854775807) (x : Int) (x0 : 0 ≤ x) (x1 : x ≤ 4294967295) (hp : RtP a n) (hq : RtP b m) (h1 : CvP a n b m) (hA : ¬ HsP a n x) (hB : ¬ HsP b m x) (w : World) (H : Held31 w) :
    Calls Tryd.prog 6 #[.agg #[.int .u32 a, .int .i64 n], .agg #[.int .u32 b, .int .i64 m], .int .u32 x] w fun e w' => e = .returned (.bool true) ∧ Below w.heap.size w w' := by
  have RP : Hid (∀ W, Calls Tryd.prog 16 #[.agg #[.int .u32 a, .int .i64 n]] W fun e w' => e = .returned (.bool true) ∧ Below W.heap.size W w') := Lib.hid (fun W => by
    have := right_any a n a0 a1 n0 n1 W
    rw [decide_eq_true hp] at this
    exact this)
  have RQ : Hid (∀ W, Calls Tryd.prog 16 #[.agg #[.int .u32 b, .int .i64 m]] W fun e w' => e = .returned (.bool true) ∧ Below W.heap.size W w') := Lib.hid (fun W => by
    have := right_any b m b0 b1 m0 m1 W
    rw [decide_eq_true hq] at this
    exact this)
  have CPQ : Hid (∀ W, Calls Tryd.prog 20 #[.agg #[.int .u32 a, .int .i64 n], .agg #[.int .u32 b, .int .i64 m]] W fun e w' => e = .returned (.bool true) ∧ Below W.heap.size W w') := Lib.hid (fun W => by
    have := covers_any a n a0 a1 n0 n1 b m b0 b1 m0 m1 W
    rw [decide_eq_true h1] at this
    exact this)
  have HP : Hid (∀ W, Calls Tryd.prog 18 #[.agg #[.int .u32 a, .int .i64 n], .int .u32 x] W fun e w' => e = .returned (.bool false) ∧ Below W.heap.size W w') := Lib.hid (fun W => by
    have := has_any a n x a0 a1 n0 n1 x0 x1 W
    rw [decide_eq_false hA] at this
    exact this)
  have HQ : Hid (∀ W, Calls Tryd.prog 18 #[.agg #[.int .u32 b, .int .i64 m], .int .u32 x] W fun e w' => e = .returned (.bool false) ∧ Below W.heap.size W w') := Lib.hid (fun W => by
    have := has_any b m x b0 b1 m0 m1 x0 x1 W
    rw [decide_eq_false hB] at this
    exact this)
  have hh := high_le hp a0 a1
  have pp := pw_pos n
  have HL : 0 ≤ a + ((pw n : Int) - 1) := by omega
  have PL : Hid (∀ W, Calls Tryd.prog 18 #[.agg #[.int .u32 a, .int .i64 n], .int .u32 a] W fun e w' => e = .returned (.bool true) ∧ Below W.heap.size W w') := Lib.hid (fun W => by
    have := has_any a n a a0 a1 n0 n1 a0 a1 W
    rw [decide_eq_true (has_low hp)] at this
    exact this)
  have PH : Hid (∀ W, Calls Tryd.prog 18 #[.agg #[.int .u32 a, .int .i64 n], .int .u32 (a + ((pw n : Int) - 1))] W fun e w' => e = .returned (.bool true) ∧ Below W.heap.size W w') := Lib.hid (fun W => by
    have := has_any a n (a + ((pw n : Int) - 1)) a0 a1 n0 n1 HL hh W
    rw [decide_eq_true (has_high hp)] at this
    exact this)
  have MK := Lib.hid (fun W => mask_any n n0 n1 W)
  rw [mk31_at hp.1] at MK
  have ex : bits .or .u32 a (bits .xor .u32 (if IntKind.u32.signed = true then -1 else IntKind.u32.max) (4294967296 - (pw n : Int))) = a + ((pw n : Int) - 1) := by
    rw [show (if IntKind.u32.signed = true then (-1 : Int) else IntKind.u32.max) = 4294967295 from rfl, show bits .xor .u32 4294967295 (4294967296 - (pw n : Int)) = (pw n : Int) - 1 from xor_mask (32 - n).toNat (by have := hp.1.1; omega)]
    exact bits_join .u32 32 (by decide) (fun z z0 z1 => by rw [IntKind.wrap_u32]; omega) (32 - n).toNat a ((pw n : Int) - 1) a0 (by have := hp.2; unfold pw at this; simpa using this) (by omega) (by omega) (by unfold pw; simp; omega) (by have := pw_le n hp.1.1; omega)
  generalize a + ((pw n : Int) - 1) = HI at *
  generalize 4294967296 - (pw n : Int) = MM at *
  clear hh HL pp
  have EX := Lib.hid ex
  clear ex
  have LV : Hid (∀ W, Below w.heap.size w W → Calls Tryd.prog 7 #[] W fun e w' => e = .returned (.bool true) ∧ Below W.heap.size W w') := Lib.hid (fun W hW => lives31 W (H.below hW))
  have B0 : Below w.heap.size w w := Below.refl _ _
  clear H
  go_enter Tryd.func6, Tryd.ntmps6
  go_wp2_with fail
  refine (RP.out _).mono ?_
  rintro e vA ⟨rfl, kbvA⟩
  have bvA : Below w.heap.size w vA := bel_call kbvA (by (repeat' (first | (with_reducible exact B0) | (with_reducible exact Below.refl _ _) | (with_reducible refine below_drewN _ ?_) | (with_reducible refine Below.drew ?_) | (with_reducible refine Below.alloc ?_ (by first | exact Nat.le_refl _ | omega | (have := B0.size; simp; omega) | (simp; done)) _)))) (by first | exact Nat.le_refl _ | omega | (have := B0.size; simp; omega) | (simp; done))
  have Zp1 : vA.heap[w.heap.size]? = some (.cells #[.int .u32 a, .int .i64 n] 30 (0, 0)) := blk_call kbvA (by (repeat' (first | (with_reducible exact heap_alloc_new _ _) | (with_reducible exact blk_new (by first | (simp; done) | omega)) | (with_reducible refine blk_drewN' ?_) | (with_reducible refine blk_drew ?_) | (with_reducible refine blk_old ?_))))
  have Zq1 : vA.heap[w.heap.size + 1]? = some (.cells #[.int .u32 b, .int .i64 m] 30 (0, 0)) := blk_call kbvA (by (repeat' (first | (with_reducible exact heap_alloc_new _ _) | (with_reducible exact blk_new (by first | (simp; done) | omega)) | (with_reducible refine blk_drewN' ?_) | (with_reducible refine blk_drew ?_) | (with_reducible refine blk_old ?_))))
  obtain ⟨zp0, zp1, -⟩ := at2 Zp1
  obtain ⟨zq0, zq1, -⟩ := at2 Zq1
  clear kbvA
  go_wp2_with fail
  refine (RQ.out _).mono ?_
  rintro e vB ⟨rfl, kbvB⟩
  have bvB : Below w.heap.size w vB := bel_call kbvB (by (repeat' (first | (with_reducible exact bvA) | (with_reducible exact Below.refl _ _) | (with_reducible refine below_drewN _ ?_) | (with_reducible refine Below.drew ?_) | (with_reducible refine Below.alloc ?_ (by first | exact Nat.le_refl _ | omega | (have := bvA.size; simp; omega) | (simp; done)) _)))) (by first | exact Nat.le_refl _ | omega | (have := bvA.size; simp; omega) | (simp; done))
  have Zp2 : vB.heap[w.heap.size]? = some (.cells #[.int .u32 a, .int .i64 n] 30 (0, 0)) := blk_call kbvB (by (repeat' (first | (with_reducible exact Zp1) | (with_reducible exact heap_alloc_new _ _) | (with_reducible exact blk_new (by first | (simp; done) | omega)) | (with_reducible refine blk_drewN' ?_) | (with_reducible refine blk_drew ?_) | (with_reducible refine blk_old ?_))))
  have Zq2 : vB.heap[w.heap.size + 1]? = some (.cells #[.int .u32 b, .int .i64 m] 30 (0, 0)) := blk_call kbvB (by (repeat' (first | (with_reducible exact Zq1) | (with_reducible exact heap_alloc_new _ _) | (with_reducible exact blk_new (by first | (simp; done) | omega)) | (with_reducible refine blk_drewN' ?_) | (with_reducible refine blk_drew ?_) | (with_reducible refine blk_old ?_))))
  clear Zp1 zp0 zp1 Zq1 zq0 zq1
  obtain ⟨zp0, zp1, -⟩ := at2 Zp2
  obtain ⟨zq0, zq1, -⟩ := at2 Zq2
  clear kbvB
  go_wp2_with fail
  refine (CPQ.out _).mono ?_
  rintro e vC ⟨rfl, kbvC⟩
  have bvC : Below w.heap.size w vC := bel_call kbvC (by (repeat' (first | (with_reducible exact bvB) | (with_reducible exact Below.refl _ _) | (with_reducible refine below_drewN _ ?_) | (with_reducible refine Below.drew ?_) | (with_reducible refine Below.alloc ?_ (by first | exact Nat.le_refl _ | omega | (have := bvB.size; simp; omega) | (simp; done)) _)))) (by first | exact Nat.le_refl _ | omega | (have := bvB.size; simp; omega) | (simp; done))
  have Zp3 : vC.heap[w.heap.size]? = some (.cells #[.int .u32 a, .int .i64 n] 30 (0, 0)) := blk_call kbvC (by (repeat' (first | (with_reducible exact Zp2) | (with_reducible exact heap_alloc_new _ _) | (with_reducible exact blk_new (by first | (simp; done) | omega)) | (with_reducible refine blk_drewN' ?_) | (with_reducible refine blk_drew ?_) | (with_reducible refine blk_old ?_))))
  have Zq3 : vC.heap[w.heap.size + 1]? = some (.cells #[.int .u32 b, .int .i64 m] 30 (0, 0)) := blk_call kbvC (by (repeat' (first | (with_reducible exact Zq2) | (with_reducible exact heap_alloc_new _ _) | (with_reducible exact blk_new (by first | (simp; done) | omega)) | (with_reducible refine blk_drewN' ?_) | (with_reducible refine blk_drew ?_) | (with_reducible refine blk_old ?_))))
  clear Zp2 zp0 zp1 Zq2 zq0 zq1
  obtain ⟨zp0, zp1, -⟩ := at2 Zp3
  obtain ⟨zq0, zq1, -⟩ := at2 Zq3
  clear kbvC
  go_wp2_with fail
  refine (HP.out _).mono ?_
  rintro e vD ⟨rfl, kbvD⟩
  have bvD : Below w.heap.size w vD := bel_call kbvD (by (repeat' (first | (with_reducible exact bvC) | (with_reducible exact Below.refl _ _) | (with_reducible refine below_drewN _ ?_) | (with_reducible refine Below.drew ?_) | (with_reducible refine Below.alloc ?_ (by first | exact Nat.le_refl _ | omega | (have := bvC.size; simp; omega) | (simp; done)) _)))) (by first | exact Nat.le_refl _ | omega | (have := bvC.size; simp; omega) | (simp; done))
  have Zp4 : vD.heap[w.heap.size]? = some (.cells #[.int .u32 a, .int .i64 n] 30 (0, 0)) := blk_call kbvD (by (repeat' (first | (with_reducible exact Zp3) | (with_reducible exact heap_alloc_new _ _) | (with_reducible exact blk_new (by first | (simp; done) | omega)) | (with_reducible refine blk_drewN' ?_) | (with_reducible refine blk_drew ?_) | (with_reducible refine blk_old ?_))))
  have Zq4 : vD.heap[w.heap.size + 1]? = some (.cells #[.int .u32 b, .int .i64 m] 30 (0, 0)) := blk_call kbvD (by (repeat' (first | (with_reducible exact Zq3) | (with_reducible exact heap_alloc_new _ _) | (with_reducible exact blk_new (by first | (simp; done) | omega)) | (with_reducible refine blk_drewN' ?_) | (with_reducible refine blk_drew ?_) | (with_reducible refine blk_old ?_))))
  clear Zp3 zp0 zp1 Zq3 zq0 zq1
  obtain ⟨zp0, zp1, -⟩ := at2 Zp4
  obtain ⟨zq0, zq1, -⟩ := at2 Zq4
  clear kbvD
  go_wp2_with fail
  refine (CPQ.out _).mono ?_
  rintro e vE ⟨rfl, kbvE⟩
  have bvE : Below w.heap.size w vE := bel_call kbvE (by (repeat' (first | (with_reducible exact bvD) | (with_reducible exact Below.refl _ _) | (with_reducible refine below_drewN _ ?_) | (with_reducible refine Below.drew ?_) | (with_reducible refine Below.alloc ?_ (by first | exact Nat.le_refl _ | omega | (have := bvD.size; simp; omega) | (simp; done)) _)))) (by first | exact Nat.le_refl _ | omega | (have := bvD.size; simp; omega) | (simp; done))
  have Zp5 : vE.heap[w.heap.size]? = some (.cells #[.int .u32 a, .int .i64 n] 30 (0, 0)) := blk_call kbvE (by (repeat' (first | (with_reducible exact Zp4) | (with_reducible exact heap_alloc_new _ _) | (with_reducible exact blk_new (by first | (simp; done) | omega)) | (with_reducible refine blk_drewN' ?_) | (with_reducible refine blk_drew ?_) | (with_reducible refine blk_old ?_))))
  have Zq5 : vE.heap[w.heap.size + 1]? = some (.cells #[.int .u32 b, .int .i64 m] 30 (0, 0)) := blk_call kbvE (by (repeat' (first | (with_reducible exact Zq4) | (with_reducible exact heap_alloc_new _ _) | (with_reducible exact blk_new (by first | (simp; done) | omega)) | (with_reducible refine blk_drewN' ?_) | (with_reducible refine blk_drew ?_) | (with_reducible refine blk_old ?_))))
  clear Zp4 zp0 zp1 Zq4 zq0 zq1
  obtain ⟨zp0, zp1, -⟩ := at2 Zp5
  obtain ⟨zq0, zq1, -⟩ := at2 Zq5
  clear kbvE
  go_wp2_with fail
  refine (HQ.out _).mono ?_
  rintro e vF ⟨rfl, kbvF⟩
  have bvF : Below w.heap.size w vF := bel_call kbvF (by (repeat' (first | (with_reducible exact bvE) | (with_reducible exact Below.refl _ _) | (with_reducible refine below_drewN _ ?_) | (with_reducible refine Below.drew ?_) | (with_reducible refine Below.alloc ?_ (by first | exact Nat.le_refl _ | omega | (have := bvE.size; simp; omega) | (simp; done)) _)))) (by first | exact Nat.le_refl _ | omega | (have := bvE.size; simp; omega) | (simp; done))
  have Zp6 : vF.heap[w.heap.size]? = some (.cells #[.int .u32 a, .int .i64 n] 30 (0, 0)) := blk_call kbvF (by (repeat' (first | (with_reducible exact Zp5) | (with_reducible exact heap_alloc_new _ _) | (with_reducible exact blk_new (by first | (simp; done) | omega)) | (with_reducible refine blk_drewN' ?_) | (with_reducible refine blk_drew ?_) | (with_reducible refine blk_old ?_))))
  have Zq6 : vF.heap[w.heap.size + 1]? = some (.cells #[.int .u32 b, .int .i64 m] 30 (0, 0)) := blk_call kbvF (by (repeat' (first | (with_reducible exact Zq5) | (with_reducible exact heap_alloc_new _ _) | (with_reducible exact blk_new (by first | (simp; done) | omega)) | (with_reducible refine blk_drewN' ?_) | (with_reducible refine blk_drew ?_) | (with_reducible refine blk_old ?_))))
  clear Zp5 zp0 zp1 Zq5 zq0 zq1
  obtain ⟨zp0, zp1, -⟩ := at2 Zp6
  obtain ⟨zq0, zq1, -⟩ := at2 Zq6
  clear kbvF
  go_upto_region 7 with (fail)
  have SC := Lib.hid (fun (v : World) (h : Below vF.heap.size vF v) => (box2 ((h.block _ (lt_blk Zp6)).trans Zp6) : v.cell? ⟨w.heap.size, 0, none⟩ = some (.int .u32 a) ∧ v.cell? ⟨w.heap.size, 1, none⟩ = some (.int .i64 n)))
  go_region_held3 (fun v => v.cell? ⟨w.heap.size, 0, none⟩ = some (.int .u32 a) ∧ v.cell? ⟨w.heap.size, 1, none⟩ = some (.int .i64 n))
    ((first | exact SC.out _ (by (repeat' (first | (with_reducible exact Below.refl _ _) | (with_reducible refine below_drewN _ ?_) | (with_reducible refine Below.drew ?_))))))
    (first | (go_at_call 22; refine (MK.out _).mono ?_; rintro e' u' ⟨rfl, rfl⟩) | fail)
  clear SC
  rw [EX.out]
  clear EX
  go_wp2_with fail
  refine (PL.out _).mono ?_
  rintro e vG ⟨rfl, kbvG⟩
  have bvG : Below w.heap.size w vG := bel_call kbvG (by (repeat' (first | (with_reducible exact bvF) | (with_reducible exact Below.refl _ _) | (with_reducible refine below_drewN _ ?_) | (with_reducible refine Below.drew ?_) | (with_reducible refine Below.alloc ?_ (by first | exact Nat.le_refl _ | omega | (have := bvF.size; simp; omega) | (simp; done)) _)))) (by first | exact Nat.le_refl _ | omega | (have := bvF.size; simp; omega) | (simp; done))
  have Zp7 : vG.heap[w.heap.size]? = some (.cells #[.int .u32 a, .int .i64 n] 30 (0, 0)) := blk_call kbvG (by (repeat' (first | (with_reducible exact Zp6) | (with_reducible exact heap_alloc_new _ _) | (with_reducible exact blk_new (by first | (simp; done) | omega)) | (with_reducible refine blk_drewN' ?_) | (with_reducible refine blk_drew ?_) | (with_reducible refine blk_old ?_))))
  have Zq7 : vG.heap[w.heap.size + 1]? = some (.cells #[.int .u32 b, .int .i64 m] 30 (0, 0)) := blk_call kbvG (by (repeat' (first | (with_reducible exact Zq6) | (with_reducible exact heap_alloc_new _ _) | (with_reducible exact blk_new (by first | (simp; done) | omega)) | (with_reducible refine blk_drewN' ?_) | (with_reducible refine blk_drew ?_) | (with_reducible refine blk_old ?_))))
  clear Zp6 zp0 zp1 Zq6 zq0 zq1
  obtain ⟨zp0, zp1, -⟩ := at2 Zp7
  obtain ⟨zq0, zq1, -⟩ := at2 Zq7
  clear kbvG
  go_wp2_with fail
  refine (PH.out _).mono ?_
  rintro e vH ⟨rfl, kbvH⟩
  have bvH : Below w.heap.size w vH := bel_call kbvH (by (repeat' (first | (with_reducible exact bvG) | (with_reducible exact Below.refl _ _) | (with_reducible refine below_drewN _ ?_) | (with_reducible refine Below.drew ?_) | (with_reducible refine Below.alloc ?_ (by first | exact Nat.le_refl _ | omega | (have := bvG.size; simp; omega) | (simp; done)) _)))) (by first | exact Nat.le_refl _ | omega | (have := bvG.size; simp; omega) | (simp; done))
  have Zp8 : vH.heap[w.heap.size]? = some (.cells #[.int .u32 a, .int .i64 n] 30 (0, 0)) := blk_call kbvH (by (repeat' (first | (with_reducible exact Zp7) | (with_reducible exact heap_alloc_new _ _) | (with_reducible exact blk_new (by first | (simp; done) | omega)) | (with_reducible refine blk_drewN' ?_) | (with_reducible refine blk_drew ?_) | (with_reducible refine blk_old ?_))))
  have Zq8 : vH.heap[w.heap.size + 1]? = some (.cells #[.int .u32 b, .int .i64 m] 30 (0, 0)) := blk_call kbvH (by (repeat' (first | (with_reducible exact Zq7) | (with_reducible exact heap_alloc_new _ _) | (with_reducible exact blk_new (by first | (simp; done) | omega)) | (with_reducible refine blk_drewN' ?_) | (with_reducible refine blk_drew ?_) | (with_reducible refine blk_old ?_))))
  clear Zp7 zp0 zp1 Zq7 zq0 zq1
  obtain ⟨zp0, zp1, -⟩ := at2 Zp8
  obtain ⟨zq0, zq1, -⟩ := at2 Zq8
  clear kbvH
  go_wp2_with fail
  refine (LV.out _ (by (repeat' (first | (with_reducible exact bvH) | (with_reducible exact Below.refl _ _) | (with_reducible refine below_drewN _ ?_) | (with_reducible refine Below.drew ?_) | (with_reducible refine Below.alloc ?_ (by first | exact Nat.le_refl _ | omega | (have := bvH.size; simp; omega) | (simp; done)) _))))).mono ?_
  rintro e vI ⟨rfl, kbvI⟩
  have bvI : Below w.heap.size w vI := bel_call kbvI (by (repeat' (first | (with_reducible exact bvH) | (with_reducible exact Below.refl _ _) | (with_reducible refine below_drewN _ ?_) | (with_reducible refine Below.drew ?_) | (with_reducible refine Below.alloc ?_ (by first | exact Nat.le_refl _ | omega | (have := bvH.size; simp; omega) | (simp; done)) _)))) (by first | exact Nat.le_refl _ | omega | (have := bvH.size; simp; omega) | (simp; done))
  have Zp9 : vI.heap[w.heap.size]? = some (.cells #[.int .u32 a, .int .i64 n] 30 (0, 0)) := blk_call kbvI (by (repeat' (first | (with_reducible exact Zp8) | (with_reducible exact heap_alloc_new _ _) | (with_reducible exact blk_new (by first | (simp; done) | omega)) | (with_reducible refine blk_drewN' ?_) | (with_reducible refine blk_drew ?_) | (with_reducible refine blk_old ?_))))
  have Zq9 : vI.heap[w.heap.size + 1]? = some (.cells #[.int .u32 b, .int .i64 m] 30 (0, 0)) := blk_call kbvI (by (repeat' (first | (with_reducible exact Zq8) | (with_reducible exact heap_alloc_new _ _) | (with_reducible exact blk_new (by first | (simp; done) | omega)) | (with_reducible refine blk_drewN' ?_) | (with_reducible refine blk_drew ?_) | (with_reducible refine blk_old ?_))))
  clear Zp8 zp0 zp1 Zq8 zq0 zq1
  obtain ⟨zp0, zp1, -⟩ := at2 Zp9
  obtain ⟨zq0, zq1, -⟩ := at2 Zq9
  clear kbvI
  go_wp2
  go_ret
  exact ⟨rfl, bvI⟩
end Go.Proofs.YtffedahmakhjeaaDoor
