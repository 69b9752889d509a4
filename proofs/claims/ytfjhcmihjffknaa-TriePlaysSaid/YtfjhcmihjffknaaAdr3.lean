/-
  Layer 31: which prefix covers which, as the program tells it: for any numbers. No condition.
-/
import Derived.Test.YtfjhcmihjffknaaAdr2
namespace Go.Proofs.Ytfjhcmihjffknaa
set_option linter.unusedVariables false
set_option linter.unusedSimpArgs false
open Go.ChangeShapes Go.WideShapes Go.ChangeAt Go.RowKit
attribute [local go_sem] alloc_drewN setCell_drewN

set_option maxRecDepth 100000 in
theorem covers_any (a n : Int) (a0 : 0 ≤ a) (a1 : a ≤ 4294967295) (n0 : -9223372036854775808 ≤ n) (n1 : n ≤ 9223372036854775807) (b m : Int) (b0 : 0 ≤ b) (b1 : b ≤ 4294967295) (m0 : -9223372036854775808 ≤ m) (m1 : m ≤ 9223372036854775807) (w : World) :
    Calls Try.prog 88 #[.agg #[.int .u32 a, .int .i64 n], .agg #[.int .u32 b, .int .i64 m]] w fun e w' => e = .returned (.bool (decide (CvP a n b m))) ∧ Below w.heap.size w w' := by
  have RQ := Lib.hid (fun W => right_any b m b0 b1 m0 m1 W)
  by_cases hr : RtP b m
  · rw [decide_eq_true hr] at RQ
    by_cases hl : n ≤ m
    · have HP := Lib.hid (fun W => has_any a n b a0 a1 n0 n1 b0 b1 W)
      have D : decide (CvP a n b m) = decide (HsP a n b) := by
        rw [Bool.eq_iff_iff, decide_eq_true_iff, decide_eq_true_iff]
        exact ⟨fun h => h.2.2, fun h => ⟨hr, hl, h⟩⟩
      rw [D]
      have dl : decide (n ≤ m) = true := decide_eq_true hl
      clear D hr
      generalize decide (HsP a n b) = R at *
      go_enter Try.func88, Try.ntmps88
      go_wp2_with fail
      refine (RQ.out _).mono ?_
      rintro e uA ⟨rfl, c1⟩
      have Zp : uA.heap[w.heap.size]? = some (.cells #[.int .u32 a, .int .i64 n] 70 (0, 0)) := blk_call c1 (by (repeat' (first | (with_reducible exact heap_alloc_new _ _) | (with_reducible exact blk_new (by first | (simp; done) | omega)) | (with_reducible refine blk_drew ?_) | (with_reducible refine blk_old ?_))))
      have Zq : uA.heap[w.heap.size + 1]? = some (.cells #[.int .u32 b, .int .i64 m] 70 (0, 0)) := blk_call c1 (by (repeat' (first | (with_reducible exact heap_alloc_new _ _) | (with_reducible exact blk_new (by first | (simp; done) | omega)) | (with_reducible refine blk_drew ?_) | (with_reducible refine blk_old ?_))))
      obtain ⟨p0, p1, -⟩ := at2 Zp
      obtain ⟨q0, q1, -⟩ := at2 Zq
      have Y1 := Lib.hid (show Below w.heap.size w uA from (((Below.refl _ w).alloc (Nat.le_refl _) _).alloc (by simp) _).trans (c1.mono (by simp <;> omega)))
      clear c1 Zp Zq
      go_wp2_with fail
      refine (HP.out _).mono ?_
      rintro e uB ⟨rfl, c2⟩
      go_wp2
      go_ret
      exact ⟨rfl, Y1.out.trans (c2.mono Y1.out.size)⟩
    · have D : decide (CvP a n b m) = false := decide_eq_false (fun h => hl h.2.1)
      rw [D]
      have dl : decide (n ≤ m) = false := decide_eq_false hl
      clear D hr
      go_enter Try.func88, Try.ntmps88
      go_wp2_with fail
      refine (RQ.out _).mono ?_
      rintro e uA ⟨rfl, c1⟩
      have Zp : uA.heap[w.heap.size]? = some (.cells #[.int .u32 a, .int .i64 n] 70 (0, 0)) := blk_call c1 (by (repeat' (first | (with_reducible exact heap_alloc_new _ _) | (with_reducible exact blk_new (by first | (simp; done) | omega)) | (with_reducible refine blk_drew ?_) | (with_reducible refine blk_old ?_))))
      have Zq : uA.heap[w.heap.size + 1]? = some (.cells #[.int .u32 b, .int .i64 m] 70 (0, 0)) := blk_call c1 (by (repeat' (first | (with_reducible exact heap_alloc_new _ _) | (with_reducible exact blk_new (by first | (simp; done) | omega)) | (with_reducible refine blk_drew ?_) | (with_reducible refine blk_old ?_))))
      obtain ⟨p0, p1, -⟩ := at2 Zp
      obtain ⟨q0, q1, -⟩ := at2 Zq
      have Y1 := Lib.hid (show Below w.heap.size w uA from (((Below.refl _ w).alloc (Nat.le_refl _) _).alloc (by simp) _).trans (c1.mono (by simp <;> omega)))
      clear c1 Zp Zq
      go_wp2
      go_ret
      exact ⟨rfl, Y1.out⟩
  · rw [decide_eq_false hr] at RQ
    have D : decide (CvP a n b m) = false := decide_eq_false (fun h => hr h.1)
    rw [D]
    clear D hr
    go_enter Try.func88, Try.ntmps88
    go_wp2_with fail
    refine (RQ.out _).mono ?_
    rintro e uA ⟨rfl, c1⟩
    have Zp : uA.heap[w.heap.size]? = some (.cells #[.int .u32 a, .int .i64 n] 70 (0, 0)) := blk_call c1 (by (repeat' (first | (with_reducible exact heap_alloc_new _ _) | (with_reducible exact blk_new (by first | (simp; done) | omega)) | (with_reducible refine blk_drew ?_) | (with_reducible refine blk_old ?_))))
    have Zq : uA.heap[w.heap.size + 1]? = some (.cells #[.int .u32 b, .int .i64 m] 70 (0, 0)) := blk_call c1 (by (repeat' (first | (with_reducible exact heap_alloc_new _ _) | (with_reducible exact blk_new (by first | (simp; done) | omega)) | (with_reducible refine blk_drew ?_) | (with_reducible refine blk_old ?_))))
    obtain ⟨p0, p1, -⟩ := at2 Zp
    obtain ⟨q0, q1, -⟩ := at2 Zq
    have Y1 := Lib.hid (show Below w.heap.size w uA from (((Below.refl _ w).alloc (Nat.le_refl _) _).alloc (by simp) _).trans (c1.mono (by simp <;> omega)))
    clear c1 Zp Zq
    go_wp2
    go_ret
    exact ⟨rfl, Y1.out⟩
end Go.Proofs.Ytfjhcmihjffknaa
