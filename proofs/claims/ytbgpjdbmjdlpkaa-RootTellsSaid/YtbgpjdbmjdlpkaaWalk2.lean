/-
  The laws of layer 2, walked: each returns true for any words. No condition.
-/
import Derived.Test.YtbgpjdbmjdlpkaaRoot2
import Derived.Test.YtbgpjdbmjdlpkaaWalk1
import Derived.Outline
namespace Go.Proofs.Ytbgpjdbmjdlpkaa
set_option linter.unusedVariables false
set_option linter.unusedSimpArgs false
open Go.ChangeShapes Go.WideShapes Go.ChangeAt Go.RowKit

theorem walk_rootTells (n : Int) (n0 : 0 ≤ n) (n1 : n ≤ 18446744073709551615) (m : Int) (m0 : 0 ≤ m) (m1 : m ≤ 18446744073709551615) (s : Int) (s0 : -9223372036854775808 ≤ s) (s1 : s ≤ 9223372036854775807) (w : World) :
    Calls Try.prog 9 #[.int .u64 n, .int .u64 m, .int .i64 s] w fun e w' => e = .returned (.bool true) ∧ Below w.heap.size w w' := by
  go_enter Try.func9, Try.ntmps9
  go_wp2_with fail
  refine (sqrt_any _ n0 n1 _).mono ?_
  rintro e w' ⟨rfl, rfl⟩
  go_wp2_with fail
  refine (sqrt_ref _ n0 n1 _).mono ?_
  rintro e w1 ⟨rfl, h1⟩
  go_wp2_with fail
  refine (log_any _ n0 n1 _).mono ?_
  rintro e w' ⟨rfl, rfl⟩
  go_wp2_with fail
  refine (log_ref _ n0 n1 _).mono ?_
  rintro e w' ⟨rfl, rfl⟩
  go_wp2_with fail
  refine (part_any _ _ n0 n1 m0 m1 _).mono ?_
  rintro e w' ⟨rfl, rfl⟩
  go_wp2_with fail
  refine (part_ref _ _ n0 n1 m0 m1 _).mono ?_
  rintro e w2 ⟨rfl, h2⟩
  go_wp2_with fail
  refine (part_any _ _ m0 m1 n0 n1 _).mono ?_
  rintro e w' ⟨rfl, rfl⟩
  go_wp2_with fail
  refine (part_ref _ _ m0 m1 n0 n1 _).mono ?_
  rintro e w3 ⟨rfl, h3⟩
  go_wp2_with fail
  refine (follow_any _ _ _ n0 n1 m0 m1 s0 s1 _).mono ?_
  rintro e w' ⟨rfl, rfl⟩
  go_wp2_with fail
  refine (follow_ref _ _ _ n0 n1 m0 m1 s0 s1 _).mono ?_
  rintro e w4 ⟨rfl, h4⟩
  go_wp2_with fail
  refine (mean_any _ _ n0 n1 s0 s1 _).mono ?_
  rintro e w' ⟨rfl, rfl⟩
  go_wp2_with fail
  refine (mean_ref _ _ n0 n1 s0 s1 _).mono ?_
  rintro e w' ⟨rfl, rfl⟩
  go_wp2_with fail
  refine (lives2 _).mono ?_
  rintro e w' ⟨rfl, rfl⟩
  go_wp2
  go_ret
  exact ⟨rfl, Below.go (Below.go (Below.go h1 h2) h3) h4⟩

theorem shr_one {n : Int} {k : Nat} (h1 : (2 : Int) ^ k ≤ n) (h2 : n < 2 ^ (k + 1)) : n / 2 ^ k = 1 := by
  have hp := pow2_pos k
  rw [pow2_succ] at h2
  have a : 1 ≤ n / 2 ^ k := by rw [Int.le_ediv_iff_mul_le hp]; omega
  have b : n / 2 ^ k < 2 := Int.ediv_lt_of_lt_mul hp h2
  omega

set_option maxHeartbeats 1000000 in
theorem walk_rootBetween (n : Int) (n0 : 0 ≤ n) (n1 : n ≤ 18446744073709551615) (w : World) :
    Calls Try.prog 10 #[.int .u64 n] w fun e w' => e = .returned (.bool true) ∧ Below w.heap.size w w' := by
  have k0 := isq_nonneg n
  have k1 := isq_hi n n0 n1
  have g1 : decide (n < isq n * isq n) = false := decide_eq_false (by have := isq_le n n0; omega)
  have g2 : decide (n < (isq n + 1) * (isq n + 1)) = true := decide_eq_true (isq_lt n n0)
  have sq := sqrt_any n n0 n1
  generalize isq n = k at *
  have SQ := Lib.hid sq; clear sq
  by_cases hz : n = 0
  · have l0 : ilog n = -1 := by rw [hz]; exact ilog_zero
    have gz : (n == 0) = true := by simp [hz]
    have L0 := Lib.hid l0; clear l0 hz
    go_enter Try.func10, Try.ntmps10
    go_wp2_with fail
    refine (SQ.out _).mono ?_
    rintro e w' ⟨rfl, rfl⟩
    go_wp2_with fail
    refine (of_any _ n0 n1 _).mono ?_
    rintro e w1 ⟨x0, x1, o1, rfl, hx, rfl⟩
    go_wp2_with fail
    refine (times_any _ _ (by omega) (by omega) (by omega) (by omega) _).mono ?_
    rintro e w2 ⟨z0, z1, z2, z3, rfl, hz, h2⟩
    go_wp2_with fail
    refine (less_any _ _ _ _ _ _ _ _ _ _ hx hz _).mono ?_
    rintro e w3 ⟨rfl, h3⟩
    go_wp2_with fail
    refine (of_any _ n0 n1 _).mono ?_
    rintro e w4 ⟨y0, y1, o2, rfl, hy, rfl⟩
    go_wp2_with fail
    refine (times_any _ _ (by omega) (by omega) (by omega) (by omega) _).mono ?_
    rintro e w5 ⟨u0, u1, u2, u3, rfl, hu, h5⟩
    go_wp2_with fail
    refine (less_any _ _ _ _ _ _ _ _ _ _ hy hu _).mono ?_
    rintro e w6 ⟨rfl, h6⟩
    go_wp2_with fail
    refine (log_any _ n0 n1 _).mono ?_
    rintro e w' ⟨rfl, rfl⟩
    rw [L0.out]
    go_wp2_with fail
    refine (lives2 _).mono ?_
    rintro e w' ⟨rfl, rfl⟩
    go_wp2
    go_ret
    have t1 : Below w.heap.size w w2 := ((Below.refl _ _).alloc (Nat.le_refl _) _).trans (h2.mono (by simp))
    have t2 := Below.go t1 h3
    exact ⟨rfl, Below.go ((t2.alloc t2.size _).trans (h5.mono (by have := t2.size; simp; omega))) h6⟩
  · obtain ⟨l, hl, l1, l2, l3⟩ := ilog_spec n (by omega) n1
    have so := shr_one l2 l3
    have gz : (n == 0) = false := by simp [hz]
    have HL := Lib.hid hl; clear hl hz l2 l3
    go_enter Try.func10, Try.ntmps10
    go_wp2_with fail
    refine (SQ.out _).mono ?_
    rintro e w' ⟨rfl, rfl⟩
    go_wp2_with fail
    refine (of_any _ n0 n1 _).mono ?_
    rintro e w1 ⟨x0, x1, o1, rfl, hx, rfl⟩
    go_wp2_with fail
    refine (times_any _ _ (by omega) (by omega) (by omega) (by omega) _).mono ?_
    rintro e w2 ⟨z0, z1, z2, z3, rfl, hz, h2⟩
    go_wp2_with fail
    refine (less_any _ _ _ _ _ _ _ _ _ _ hx hz _).mono ?_
    rintro e w3 ⟨rfl, h3⟩
    go_wp2_with fail
    refine (of_any _ n0 n1 _).mono ?_
    rintro e w4 ⟨y0, y1, o2, rfl, hy, rfl⟩
    go_wp2_with fail
    refine (times_any _ _ (by omega) (by omega) (by omega) (by omega) _).mono ?_
    rintro e w5 ⟨u0, u1, u2, u3, rfl, hu, h5⟩
    go_wp2_with fail
    refine (less_any _ _ _ _ _ _ _ _ _ _ hy hu _).mono ?_
    rintro e w6 ⟨rfl, h6⟩
    go_wp2_with fail
    refine (log_any _ n0 n1 _).mono ?_
    rintro e w' ⟨rfl, rfl⟩
    rw [HL.out]
    go_wp2_with fail
    refine (lives2 _).mono ?_
    rintro e w' ⟨rfl, rfl⟩
    go_wp2
    go_ret
    have t1 : Below w.heap.size w w2 := ((Below.refl _ _).alloc (Nat.le_refl _) _).trans (h2.mono (by simp))
    have t2 := Below.go t1 h3
    exact ⟨rfl, Below.go ((t2.alloc t2.size _).trans (h5.mono (by have := t2.size; simp; omega))) h6⟩

/-- What the law of rising asks, of any base and count. -/
theorem prt_rises {lo hi f m : Int} (h0 : 0 ≤ lo) (h : lo ≤ hi) (f1 : 1 ≤ f) (hm : f ≤ m) : prt lo f ≤ prt hi f ∧ prt lo m ≤ prt lo f ∧ prt hi f ≤ min hi 2147483648 := by
  unfold prt
  rw [if_neg (by omega), if_neg (by omega), if_neg (by omega)]
  have b0 : 0 ≤ bas lo ∧ bas lo ≤ bas hi ∧ bas hi = min hi 2147483648 := by unfold bas; omega
  obtain ⟨b0, b1, b2⟩ := b0
  rw [← b2]
  have s1 := sq_mono b0 b1
  have s0 : 0 ≤ bas lo * bas lo := Int.mul_nonneg b0 b0
  have d0 : 0 ≤ bas lo * bas lo / m := Int.ediv_nonneg s0 (by omega)
  refine ⟨isq_mono (Int.ediv_nonneg s0 (by omega)) (Int.ediv_le_ediv (by omega) s1), isq_mono d0 ?_, ?_⟩
  · rw [Int.le_ediv_iff_mul_le (by omega)]
    have e1 : bas lo * bas lo / m * m ≤ bas lo * bas lo := Int.ediv_mul_le _ (by omega)
    have e2 : bas lo * bas lo / m * f ≤ bas lo * bas lo / m * m := Int.mul_le_mul_of_nonneg_left hm d0
    omega
  · by_cases hc : isq (bas hi * bas hi / f) ≤ bas hi
    · exact hc
    · exfalso
      have q0 : 0 ≤ bas hi * bas hi / f := Int.ediv_nonneg (by omega) (by omega)
      have := (le_isq (m := bas hi + 1) q0 (by omega)).1 (by omega)
      have e1 : bas hi * bas hi / f ≤ bas hi * bas hi := Int.ediv_le_self _ (by omega)
      have e2 : (bas hi + 1) * (bas hi + 1) = bas hi * bas hi + 2 * bas hi + 1 := by simp only [Int.add_mul, Int.mul_add]; omega
      omega
theorem prt_wd (n c : Int) (h : 0 ≤ n) (hc : 0 ≤ c) : 0 ≤ prt n c := by
  unfold prt; split
  · exact (bas_bd h).1
  · exact isq_nonneg _

set_option maxHeartbeats 1000000 in
theorem walk_rootRises (a : Int) (a0 : 0 ≤ a) (a1 : a ≤ 18446744073709551615) (b : Int) (b0 : 0 ≤ b) (b1 : b ≤ 18446744073709551615) (c : Int) (c0 : 0 ≤ c) (c1 : c ≤ 18446744073709551615) (d : Int) (d0 : 0 ≤ d) (d1 : d ≤ 18446744073709551615) (w : World) :
    Calls Try.prog 11 #[.agg #[.int .u64 a, .int .u64 b, .int .u64 c, .int .u64 d]] w fun e w' => e = .returned (.bool true) ∧ Below w.heap.size w w' := by
  have f1 : isq (min a b) ≤ isq (max a b) := isq_mono (by omega) (by omega)
  by_cases hz : min c d = 0
  · have gz : (min c d == 0) = true := by simp [hz]
    obtain ⟨f2, f3, f4⟩ := prt_rises (lo := min a b) (hi := max a b) (f := 1) (m := max c (max d 1)) (by omega) (by omega) (by omega) (by omega)
    clear hz
    go_enter Try.func11, Try.ntmps11
    go_wp2
    go_quiet (fail)
    go_wp2_with (first
      | (go_at_call 33; refine (sqrt_any _ (by omega) (by omega) _).mono ?_; rintro e w' ⟨rfl, rfl⟩)
      | (go_at_call 37; refine (part_any _ _ (by omega) (by omega) (by omega) (by omega) _).mono ?_; rintro e w' ⟨rfl, rfl⟩)
      | (go_at_call 43; refine (lives2 _).mono ?_; rintro e w' ⟨rfl, rfl⟩))
    go_ret
    exact ⟨rfl, below_drewN nq ((Below.refl _ _).alloc (Nat.le_refl _) _)⟩
  · have gz : (min c d == 0) = false := by simp [hz]
    obtain ⟨f2, f3, f4⟩ := prt_rises (lo := min a b) (hi := max a b) (f := min c d) (m := max c d) (by omega) (by omega) (by omega) (by omega)
    clear hz
    go_enter Try.func11, Try.ntmps11
    go_wp2
    go_quiet (fail)
    go_wp2_with (first
      | (go_at_call 33; refine (sqrt_any _ (by omega) (by omega) _).mono ?_; rintro e w' ⟨rfl, rfl⟩)
      | (go_at_call 37; refine (part_any _ _ (by omega) (by omega) (by omega) (by omega) _).mono ?_; rintro e w' ⟨rfl, rfl⟩)
      | (go_at_call 43; refine (lives2 _).mono ?_; rintro e w' ⟨rfl, rfl⟩))
    go_ret
    exact ⟨rfl, below_drewN nq ((Below.refl _ _).alloc (Nat.le_refl _) _)⟩
end Go.Proofs.Ytbgpjdbmjdlpkaa
