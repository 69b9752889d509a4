/-
  Layer 31: the law on two prefixes, case by case: one is not right, walked: true for any arguments. What the library's variables hold is handed on.
-/
import Derived.Test.YtffedahmakhjeaaDoorAdr9
import Derived.Deep.CutBlock
import Derived.Deep.DeepCutAuto
namespace Go.Proofs.YtffedahmakhjeaaDoor
set_option linter.unusedVariables false
set_option linter.unusedSimpArgs false
open Go.ChangeShapes Go.WideShapes Go.ChangeAt Go.RowKit
attribute [local go_sem] alloc_drewN setCell_drewN

theorem xor_mask (k : Nat) (hk : k ≤ 32) : bits .xor .u32 4294967295 (4294967296 - ((2 ^ k : Nat) : Int)) = ((2 ^ k : Nat) : Int) - 1 := by
  have h : 2 ^ k ≤ 2 ^ 32 := Nat.pow_le_pow_right (by decide) hk
  have h0 : 0 < 2 ^ k := Nat.two_pow_pos _
  have e : (2 : Nat) ^ 32 = 4294967296 := by decide
  have hm : (4294967296 : Int) - ((2 ^ k : Nat) : Int) = ((4294967296 - 2 ^ k : Nat) : Int) := by omega
  rw [hm]
  show IntKind.u32.wrap ((BitVec.ofInt 32 4294967295 ^^^ BitVec.ofInt 32 ((4294967296 - 2 ^ k : Nat) : Int)).toNat) = _
  rw [show BitVec.ofInt 32 4294967295 = BitVec.allOnes 32 by decide, BitVec.ofInt_natCast, BitVec.allOnes_xor, BitVec.toNat_not, BitVec.toNat_ofNat]
  have e2 : 2 ^ 32 - 1 - (4294967296 - 2 ^ k) % 2 ^ 32 = 2 ^ k - 1 := by
    rw [Nat.mod_eq_of_lt (by omega)]; omega
  rw [e2, wrap_small _ (by omega) (by omega)]
  omega
theorem blk_drewN' {w : World} {k n : Nat} {x : Option Obj} (h : w.heap[k]? = x) : (w.drewN n).heap[k]? = x := h
set_option maxRecDepth 100000 in
set_option maxHeartbeats 2000000 in
theorem apart_p (a : Int) (a0 : 0 ≤ a) (a1 : a ≤ 4294967295) (n : Int) (n0 : -9223372036854775808 ≤ n) (n1 : n ≤ 9223372036854775807) (b : Int) (b0 : 0 ≤ b) (b1 : b ≤ 4294967295) (m : Int) (m0 : -9223372036854775808 ≤ m) (m1 : m ≤ 9223372036854775807) (x : Int) (x0 : 0 ≤ x) (x1 : x ≤ 4294967295) (hp : ¬ RtP a n) (w : World) (H : Held31 w) :
    Calls Tryd.prog 6 #[.agg #[.int .u32 a, .int .i64 n], .agg #[.int .u32 b, .int .i64 m], .int .u32 x] w fun e w' => e = .returned (.bool true) ∧ Below w.heap.size w w' := by
  have RP : Hid (∀ W, Calls Tryd.prog 16 #[.agg #[.int .u32 a, .int .i64 n]] W fun e w' => e = .returned (.bool false) ∧ Below W.heap.size W w') := Lib.hid (fun W => by
    have := right_any a n a0 a1 n0 n1 W
    rw [decide_eq_false hp] at this
    exact this)
  have CPQ : Hid (∀ W, Calls Tryd.prog 20 #[.agg #[.int .u32 a, .int .i64 n], .agg #[.int .u32 b, .int .i64 m]] W fun e w' => e = .returned (.bool false) ∧ Below W.heap.size W w') := Lib.hid (fun W => by
    have := covers_any a n a0 a1 n0 n1 b m b0 b1 m0 m1 W
    rw [decide_eq_false (fun h : CvP a n b m => hp h.2.2.1)] at this
    exact this)
  have CQP : Hid (∀ W, Calls Tryd.prog 20 #[.agg #[.int .u32 b, .int .i64 m], .agg #[.int .u32 a, .int .i64 n]] W fun e w' => e = .returned (.bool false) ∧ Below W.heap.size W w') := Lib.hid (fun W => by
    have := covers_any b m b0 b1 m0 m1 a n a0 a1 n0 n1 W
    rw [decide_eq_false (fun h : CvP b m a n => hp h.1)] at this
    exact this)
  have LV : Hid (∀ W, Below w.heap.size w W → Calls Tryd.prog 7 #[] W fun e w' => e = .returned (.bool true) ∧ Below W.heap.size W w') := Lib.hid (fun W hW => lives31 W (H.below hW))
  have B0 : Below w.heap.size w w := Below.refl _ _
  clear H
  go_enter Tryd.func6, Tryd.ntmps6
  go_wp2_with fail
  refine (RP.out _).mono ?_
  rintro e vA ⟨rfl, kbvA⟩
  have bvA : Below w.heap.size w vA := bel_call kbvA (by (repeat' (first | (with_reducible exact B0) | (with_reducible exact Below.refl _ _) | (with_reducible refine below_drewN _ ?_) | (with_reducible refine Below.drew ?_) | (with_reducible refine Below.alloc ?_ (by first | exact Nat.le_refl _ | omega | (have := B0.size; simp; omega) | (simp; done)) _)))) (by first | exact Nat.le_refl _ | omega | (have := B0.size; simp; omega) | (simp; done))
  have Zp1 : vA.heap[w.heap.size]? = some (.cells #[.int .u32 a, .int .i64 n] 30 (0, 0)) := blk_call kbvA (by (repeat' (first | (with_reducible exact heap_alloc_new _ _) | (with_reducible exact blk_new (by first | (simp; done) | omega)) | (with_reducible refine blk_drewN' ?_) | (with_reducible refine blk_drew ?_) | (with_reducible refine blk_old ?_))))
  have Zq1 : vA.heap[w.heap.size + 1]? = some (.cells #[.int .u32 b, .int .i64 m] 30 (0, 0)) := blk_call kbvA (by (repeat' (first | (with_reducible exact heap_alloc_new _ _) | (with_reducible exact blk_new (by first | (simp; done) | omega)) | (with_reducible refine blk_drewN' ?_) | (with_reducible refine blk_drew ?_) | (with_reducible refine blk_old ?_))))
  obtain ⟨zp0, zp1, -⟩ := at2 Zp1
  obtain ⟨zq0, zq1, -⟩ := at2 Zq1
  clear kbvA
  go_wp2_with fail
  refine (CPQ.out _).mono ?_
  rintro e vB ⟨rfl, kbvB⟩
  have bvB : Below w.heap.size w vB := bel_call kbvB (by (repeat' (first | (with_reducible exact bvA) | (with_reducible exact Below.refl _ _) | (with_reducible refine below_drewN _ ?_) | (with_reducible refine Below.drew ?_) | (with_reducible refine Below.alloc ?_ (by first | exact Nat.le_refl _ | omega | (have := bvA.size; simp; omega) | (simp; done)) _)))) (by first | exact Nat.le_refl _ | omega | (have := bvA.size; simp; omega) | (simp; done))
  have Zp2 : vB.heap[w.heap.size]? = some (.cells #[.int .u32 a, .int .i64 n] 30 (0, 0)) := blk_call kbvB (by (repeat' (first | (with_reducible exact Zp1) | (with_reducible exact heap_alloc_new _ _) | (with_reducible exact blk_new (by first | (simp; done) | omega)) | (with_reducible refine blk_drewN' ?_) | (with_reducible refine blk_drew ?_) | (with_reducible refine blk_old ?_))))
  have Zq2 : vB.heap[w.heap.size + 1]? = some (.cells #[.int .u32 b, .int .i64 m] 30 (0, 0)) := blk_call kbvB (by (repeat' (first | (with_reducible exact Zq1) | (with_reducible exact heap_alloc_new _ _) | (with_reducible exact blk_new (by first | (simp; done) | omega)) | (with_reducible refine blk_drewN' ?_) | (with_reducible refine blk_drew ?_) | (with_reducible refine blk_old ?_))))
  clear Zp1 zp0 zp1 Zq1 zq0 zq1
  obtain ⟨zp0, zp1, -⟩ := at2 Zp2
  obtain ⟨zq0, zq1, -⟩ := at2 Zq2
  clear kbvB
  go_wp2_with fail
  refine (CQP.out _).mono ?_
  rintro e vC ⟨rfl, kbvC⟩
  have bvC : Below w.heap.size w vC := bel_call kbvC (by (repeat' (first | (with_reducible exact bvB) | (with_reducible exact Below.refl _ _) | (with_reducible refine below_drewN _ ?_) | (with_reducible refine Below.drew ?_) | (with_reducible refine Below.alloc ?_ (by first | exact Nat.le_refl _ | omega | (have := bvB.size; simp; omega) | (simp; done)) _)))) (by first | exact Nat.le_refl _ | omega | (have := bvB.size; simp; omega) | (simp; done))
  have Zp3 : vC.heap[w.heap.size]? = some (.cells #[.int .u32 a, .int .i64 n] 30 (0, 0)) := blk_call kbvC (by (repeat' (first | (with_reducible exact Zp2) | (with_reducible exact heap_alloc_new _ _) | (with_reducible exact blk_new (by first | (simp; done) | omega)) | (with_reducible refine blk_drewN' ?_) | (with_reducible refine blk_drew ?_) | (with_reducible refine blk_old ?_))))
  have Zq3 : vC.heap[w.heap.size + 1]? = some (.cells #[.int .u32 b, .int .i64 m] 30 (0, 0)) := blk_call kbvC (by (repeat' (first | (with_reducible exact Zq2) | (with_reducible exact heap_alloc_new _ _) | (with_reducible exact blk_new (by first | (simp; done) | omega)) | (with_reducible refine blk_drewN' ?_) | (with_reducible refine blk_drew ?_) | (with_reducible refine blk_old ?_))))
  clear Zp2 zp0 zp1 Zq2 zq0 zq1
  obtain ⟨zp0, zp1, -⟩ := at2 Zp3
  obtain ⟨zq0, zq1, -⟩ := at2 Zq3
  clear kbvC
  go_wp2_with fail
  refine (LV.out _ (by (repeat' (first | (with_reducible exact bvC) | (with_reducible exact Below.refl _ _) | (with_reducible refine below_drewN _ ?_) | (with_reducible refine Below.drew ?_) | (with_reducible refine Below.alloc ?_ (by first | exact Nat.le_refl _ | omega | (have := bvC.size; simp; omega) | (simp; done)) _))))).mono ?_
  rintro e vD ⟨rfl, kbvD⟩
  have bvD : Below w.heap.size w vD := bel_call kbvD (by (repeat' (first | (with_reducible exact bvC) | (with_reducible exact Below.refl _ _) | (with_reducible refine below_drewN _ ?_) | (with_reducible refine Below.drew ?_) | (with_reducible refine Below.alloc ?_ (by first | exact Nat.le_refl _ | omega | (have := bvC.size; simp; omega) | (simp; done)) _)))) (by first | exact Nat.le_refl _ | omega | (have := bvC.size; simp; omega) | (simp; done))
  have Zp4 : vD.heap[w.heap.size]? = some (.cells #[.int .u32 a, .int .i64 n] 30 (0, 0)) := blk_call kbvD (by (repeat' (first | (with_reducible exact Zp3) | (with_reducible exact heap_alloc_new _ _) | (with_reducible exact blk_new (by first | (simp; done) | omega)) | (with_reducible refine blk_drewN' ?_) | (with_reducible refine blk_drew ?_) | (with_reducible refine blk_old ?_))))
  have Zq4 : vD.heap[w.heap.size + 1]? = some (.cells #[.int .u32 b, .int .i64 m] 30 (0, 0)) := blk_call kbvD (by (repeat' (first | (with_reducible exact Zq3) | (with_reducible exact heap_alloc_new _ _) | (with_reducible exact blk_new (by first | (simp; done) | omega)) | (with_reducible refine blk_drewN' ?_) | (with_reducible refine blk_drew ?_) | (with_reducible refine blk_old ?_))))
  clear Zp3 zp0 zp1 Zq3 zq0 zq1
  obtain ⟨zp0, zp1, -⟩ := at2 Zp4
  obtain ⟨zq0, zq1, -⟩ := at2 Zq4
  clear kbvD
  go_wp2
  go_ret
  exact ⟨rfl, bvD⟩
set_option maxRecDepth 100000 in
set_option maxHeartbeats 2000000 in
theorem apart_q (a : Int) (a0 : 0 ≤ a) (a1 : a ≤ 4294967295) (n : Int) (n0 : -9223372036854775808 ≤ n) (n1 : n ≤ 9223372036854775807) (b : Int) (b0 : 0 ≤ b) (b1 : b ≤ 4294967295) (m : Int) (m0 : -9223372036854775808 ≤ m) (m1 : m ≤ 9223372036854775807) (x : Int) (x0 : 0 ≤ x) (x1 : x ≤ 4294967295) (hp : RtP a n) (hq : ¬ RtP b m) (w : World) (H : Held31 w) :
    Calls Tryd.prog 6 #[.agg #[.int .u32 a, .int .i64 n], .agg #[.int .u32 b, .int .i64 m], .int .u32 x] w fun e w' => e = .returned (.bool true) ∧ Below w.heap.size w w' := by
  have RP : Hid (∀ W, Calls Tryd.prog 16 #[.agg #[.int .u32 a, .int .i64 n]] W fun e w' => e = .returned (.bool true) ∧ Below W.heap.size W w') := Lib.hid (fun W => by
    have := right_any a n a0 a1 n0 n1 W
    rw [decide_eq_true hp] at this
    exact this)
  have RQ : Hid (∀ W, Calls Tryd.prog 16 #[.agg #[.int .u32 b, .int .i64 m]] W fun e w' => e = .returned (.bool false) ∧ Below W.heap.size W w') := Lib.hid (fun W => by
    have := right_any b m b0 b1 m0 m1 W
    rw [decide_eq_false hq] at this
    exact this)
  have CPQ : Hid (∀ W, Calls Tryd.prog 20 #[.agg #[.int .u32 a, .int .i64 n], .agg #[.int .u32 b, .int .i64 m]] W fun e w' => e = .returned (.bool false) ∧ Below W.heap.size W w') := Lib.hid (fun W => by
    have := covers_any a n a0 a1 n0 n1 b m b0 b1 m0 m1 W
    rw [decide_eq_false (fun h : CvP a n b m => hq h.1)] at this
    exact this)
  have CQP : Hid (∀ W, Calls Tryd.prog 20 #[.agg #[.int .u32 b, .int .i64 m], .agg #[.int .u32 a, .int .i64 n]] W fun e w' => e = .returned (.bool false) ∧ Below W.heap.size W w') := Lib.hid (fun W => by
    have := covers_any b m b0 b1 m0 m1 a n a0 a1 n0 n1 W
    rw [decide_eq_false (fun h : CvP b m a n => hq h.2.2.1)] at this
    exact this)
  have LV : Hid (∀ W, Below w.heap.size w W → Calls Tryd.prog 7 #[] W fun e w' => e = .returned (.bool true) ∧ Below W.heap.size W w') := Lib.hid (fun W hW => lives31 W (H.below hW))
  have B0 : Below w.heap.size w w := Below.refl _ _
  clear H
  go_enter Tryd.func6, Tryd.ntmps6
  go_wp2_with fail
  refine (RP.out _).mono ?_
  rintro e vA ⟨rfl, kbvA⟩
  have bvA : Below w.heap.size w vA := bel_call kbvA (by (repeat' (first | (with_reducible exact B0) | (with_reducible exact Below.refl _ _) | (with_reducible refine below_drewN _ ?_) | (with_reducible refine Below.drew ?_) | (with_reducible refine Below.alloc ?_ (by first | exact Nat.le_refl _ | omega | (have := B0.size; simp; omega) | (simp; done)) _)))) (by first | exact Nat.le_refl _ | omega | (have := B0.size; simp; omega) | (simp; done))
  have Zp1 : vA.heap[w.heap.size]? = some (.cells #[.int .u32 a, .int .i64 n] 30 (0, 0)) := blk_call kbvA (by (repeat' (first | (with_reducible exact heap_alloc_new _ _) | (with_reducible exact blk_new (by first | (simp; done) | omega)) | (with_reducible refine blk_drewN' ?_) | (with_reducible refine blk_drew ?_) | (with_reducible refine blk_old ?_))))
  have Zq1 : vA.heap[w.heap.size + 1]? = some (.cells #[.int .u32 b, .int .i64 m] 30 (0, 0)) := blk_call kbvA (by (repeat' (first | (with_reducible exact heap_alloc_new _ _) | (with_reducible exact blk_new (by first | (simp; done) | omega)) | (with_reducible refine blk_drewN' ?_) | (with_reducible refine blk_drew ?_) | (with_reducible refine blk_old ?_))))
  obtain ⟨zp0, zp1, -⟩ := at2 Zp1
  obtain ⟨zq0, zq1, -⟩ := at2 Zq1
  clear kbvA
  go_wp2_with fail
  refine (RQ.out _).mono ?_
  rintro e vB ⟨rfl, kbvB⟩
  have bvB : Below w.heap.size w vB := bel_call kbvB (by (repeat' (first | (with_reducible exact bvA) | (with_reducible exact Below.refl _ _) | (with_reducible refine below_drewN _ ?_) | (with_reducible refine Below.drew ?_) | (with_reducible refine Below.alloc ?_ (by first | exact Nat.le_refl _ | omega | (have := bvA.size; simp; omega) | (simp; done)) _)))) (by first | exact Nat.le_refl _ | omega | (have := bvA.size; simp; omega) | (simp; done))
  have Zp2 : vB.heap[w.heap.size]? = some (.cells #[.int .u32 a, .int .i64 n] 30 (0, 0)) := blk_call kbvB (by (repeat' (first | (with_reducible exact Zp1) | (with_reducible exact heap_alloc_new _ _) | (with_reducible exact blk_new (by first | (simp; done) | omega)) | (with_reducible refine blk_drewN' ?_) | (with_reducible refine blk_drew ?_) | (with_reducible refine blk_old ?_))))
  have Zq2 : vB.heap[w.heap.size + 1]? = some (.cells #[.int .u32 b, .int .i64 m] 30 (0, 0)) := blk_call kbvB (by (repeat' (first | (with_reducible exact Zq1) | (with_reducible exact heap_alloc_new _ _) | (with_reducible exact blk_new (by first | (simp; done) | omega)) | (with_reducible refine blk_drewN' ?_) | (with_reducible refine blk_drew ?_) | (with_reducible refine blk_old ?_))))
  clear Zp1 zp0 zp1 Zq1 zq0 zq1
  obtain ⟨zp0, zp1, -⟩ := at2 Zp2
  obtain ⟨zq0, zq1, -⟩ := at2 Zq2
  clear kbvB
  go_wp2_with fail
  refine (CPQ.out _).mono ?_
  rintro e vC ⟨rfl, kbvC⟩
  have bvC : Below w.heap.size w vC := bel_call kbvC (by (repeat' (first | (with_reducible exact bvB) | (with_reducible exact Below.refl _ _) | (with_reducible refine below_drewN _ ?_) | (with_reducible refine Below.drew ?_) | (with_reducible refine Below.alloc ?_ (by first | exact Nat.le_refl _ | omega | (have := bvB.size; simp; omega) | (simp; done)) _)))) (by first | exact Nat.le_refl _ | omega | (have := bvB.size; simp; omega) | (simp; done))
  have Zp3 : vC.heap[w.heap.size]? = some (.cells #[.int .u32 a, .int .i64 n] 30 (0, 0)) := blk_call kbvC (by (repeat' (first | (with_reducible exact Zp2) | (with_reducible exact heap_alloc_new _ _) | (with_reducible exact blk_new (by first | (simp; done) | omega)) | (with_reducible refine blk_drewN' ?_) | (with_reducible refine blk_drew ?_) | (with_reducible refine blk_old ?_))))
  have Zq3 : vC.heap[w.heap.size + 1]? = some (.cells #[.int .u32 b, .int .i64 m] 30 (0, 0)) := blk_call kbvC (by (repeat' (first | (with_reducible exact Zq2) | (with_reducible exact heap_alloc_new _ _) | (with_reducible exact blk_new (by first | (simp; done) | omega)) | (with_reducible refine blk_drewN' ?_) | (with_reducible refine blk_drew ?_) | (with_reducible refine blk_old ?_))))
  clear Zp2 zp0 zp1 Zq2 zq0 zq1
  obtain ⟨zp0, zp1, -⟩ := at2 Zp3
  obtain ⟨zq0, zq1, -⟩ := at2 Zq3
  clear kbvC
  go_wp2_with fail
  refine (CQP.out _).mono ?_
  rintro e vD ⟨rfl, kbvD⟩
  have bvD : Below w.heap.size w vD := bel_call kbvD (by (repeat' (first | (with_reducible exact bvC) | (with_reducible exact Below.refl _ _) | (with_reducible refine below_drewN _ ?_) | (with_reducible refine Below.drew ?_) | (with_reducible refine Below.alloc ?_ (by first | exact Nat.le_refl _ | omega | (have := bvC.size; simp; omega) | (simp; done)) _)))) (by first | exact Nat.le_refl _ | omega | (have := bvC.size; simp; omega) | (simp; done))
  have Zp4 : vD.heap[w.heap.size]? = some (.cells #[.int .u32 a, .int .i64 n] 30 (0, 0)) := blk_call kbvD (by (repeat' (first | (with_reducible exact Zp3) | (with_reducible exact heap_alloc_new _ _) | (with_reducible exact blk_new (by first | (simp; done) | omega)) | (with_reducible refine blk_drewN' ?_) | (with_reducible refine blk_drew ?_) | (with_reducible refine blk_old ?_))))
  have Zq4 : vD.heap[w.heap.size + 1]? = some (.cells #[.int .u32 b, .int .i64 m] 30 (0, 0)) := blk_call kbvD (by (repeat' (first | (with_reducible exact Zq3) | (with_reducible exact heap_alloc_new _ _) | (with_reducible exact blk_new (by first | (simp; done) | omega)) | (with_reducible refine blk_drewN' ?_) | (with_reducible refine blk_drew ?_) | (with_reducible refine blk_old ?_))))
  clear Zp3 zp0 zp1 Zq3 zq0 zq1
  obtain ⟨zp0, zp1, -⟩ := at2 Zp4
  obtain ⟨zq0, zq1, -⟩ := at2 Zq4
  clear kbvD
  go_wp2_with fail
  refine (LV.out _ (by (repeat' (first | (with_reducible exact bvD) | (with_reducible exact Below.refl _ _) | (with_reducible refine below_drewN _ ?_) | (with_reducible refine Below.drew ?_) | (with_reducible refine Below.alloc ?_ (by first | exact Nat.le_refl _ | omega | (have := bvD.size; simp; omega) | (simp; done)) _))))).mono ?_
  rintro e vE ⟨rfl, kbvE⟩
  have bvE : Below w.heap.size w vE := bel_call kbvE (by (repeat' (first | (with_reducible exact bvD) | (with_reducible exact Below.refl _ _) | (with_reducible refine below_drewN _ ?_) | (with_reducible refine Below.drew ?_) | (with_reducible refine Below.alloc ?_ (by first | exact Nat.le_refl _ | omega | (have := bvD.size; simp; omega) | (simp; done)) _)))) (by first | exact Nat.le_refl _ | omega | (have := bvD.size; simp; omega) | (simp; done))
  have Zp5 : vE.heap[w.heap.size]? = some (.cells #[.int .u32 a, .int .i64 n] 30 (0, 0)) := blk_call kbvE (by (repeat' (first | (with_reducible exact Zp4) | (with_reducible exact heap_alloc_new _ _) | (with_reducible exact blk_new (by first | (simp; done) | omega)) | (with_reducible refine blk_drewN' ?_) | (with_reducible refine blk_drew ?_) | (with_reducible refine blk_old ?_))))
  have Zq5 : vE.heap[w.heap.size + 1]? = some (.cells #[.int .u32 b, .int .i64 m] 30 (0, 0)) := blk_call kbvE (by (repeat' (first | (with_reducible exact Zq4) | (with_reducible exact heap_alloc_new _ _) | (with_reducible exact blk_new (by first | (simp; done) | omega)) | (with_reducible refine blk_drewN' ?_) | (with_reducible refine blk_drew ?_) | (with_reducible refine blk_old ?_))))
  clear Zp4 zp0 zp1 Zq4 zq0 zq1
  obtain ⟨zp0, zp1, -⟩ := at2 Zp5
  obtain ⟨zq0, zq1, -⟩ := at2 Zq5
  clear kbvE
  go_wp2
  go_ret
  exact ⟨rfl, bvE⟩
end Go.Proofs.YtffedahmakhjeaaDoor
