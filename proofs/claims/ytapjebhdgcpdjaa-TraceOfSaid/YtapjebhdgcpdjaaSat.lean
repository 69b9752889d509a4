/-
  What the calls of package sat return, for any words: sums, differences, products, quotients and doublings that stop at the greatest number; the world is as it was. No condition but that the numbers are words.
-/
import Derived.Test.YtapjebhdgcpdjaaRef1c
import Derived.Test.YtapjebhdgcpdjaaShelf
import Derived.Laws.Externs
import Derived.Outline
namespace Go.Proofs.Ytapjebhdgcpdjaa
set_option linter.unusedVariables false
set_option linter.unusedSimpArgs false
open Go.ChangeShapes Go.WideShapes Go.ChangeAt Go.RowKit

theorem add64_0 (x y : Int) (hx : 0 ≤ x) (hx1 : x ≤ 18446744073709551615) (hy : 0 ≤ y) (hy1 : y ≤ 18446744073709551615) (w : World) : (callFunc 82 #[.int .u64 x, .int .u64 y, .int .u64 0]).run Try.prog w =
    .ok (.value (.tuple #[.int .u64 ((x + y) % 18446744073709551616), .int .u64 ((x + y) / 18446744073709551616)])) w := by
  rw [run_callFunc_extern Try.func82 (by kernel_rfl) (by kernel_rfl) (by kernel_rfl) (e := add64Entry) (by kernel_rfl)]
  have := run_add64 (P := Try.prog) x y 0 hx hy (by omega) (by omega) (w := w)
  rw [this]
  simp only [Result.andThen]
  rw [Int.add_zero]
theorem mul64_any (x y : Int) (hx : 0 ≤ x) (hx1 : x ≤ 18446744073709551615) (hy : 0 ≤ y) (hy1 : y ≤ 18446744073709551615) (w : World) :
    Calls Try.prog 100 #[.int .u64 x, .int .u64 y] w fun e w' => e = .returned (.tuple #[.int .u64 (x * y / 18446744073709551616), .int .u64 (x * y % 18446744073709551616)]) ∧ w = w' := by
  obtain ⟨x, rfl⟩ := Int.eq_ofNat_of_zero_le hx
  obtain ⟨y, rfl⟩ := Int.eq_ofNat_of_zero_le hy
  refine (Try.bits_Mul64 x y (by omega) (by omega) w).mono ?_
  rintro e w' ⟨rfl, rfl⟩
  exact ⟨by simp, rfl⟩
theorem lz64_any (x : Int) (h0 : 0 ≤ x) (h1 : x ≤ 18446744073709551615) (w : World) :
    Calls Try.prog 115 #[.int .u64 x] w fun e w' => e = .returned (.int .i64 (64 - (Lib.bitLen x.toNat : Int))) ∧ w = w' := by
  refine (Try.bits_LeadingZeros64 x w h0 h1).mono ?_
  rintro e w' ⟨rfl, rfl⟩
  exact ⟨rfl, rfl⟩
theorem capped_any (h l : Int) (w : World) :
    Calls Try.prog 83 #[.int .u64 h, .int .u64 l] w fun e w' => e = .returned (.int .u64 (capHi h l)) ∧ w = w' := by
  by_cases e : h = 0
  · subst e
    have e : capHi 0 l = l := rfl
    rw [e]
    go_enter Try.func83, Try.ntmps83
    go_wp2
    go_ret
    exact ⟨rfl, rfl⟩
  · have e2 : capHi h l = 18446744073709551615 := by unfold capHi; rw [if_neg e]
    rw [e2]
    have hb : (h != 0) = true := by simp [e]
    clear e2 e
    go_enter Try.func83, Try.ntmps83
    go_wp2
    go_ret
    exact ⟨rfl, rfl⟩
theorem sat_add (a b : Int) (ha0 : 0 ≤ a) (ha1 : a ≤ 18446744073709551615) (hb0 : 0 ≤ b) (hb1 : b ≤ 18446744073709551615) (w : World) :
    Calls Try.prog 57 #[.int .u64 a, .int .u64 b] w fun e w' => e = .returned (.int .u64 (cap (a + b))) ∧ w = w' := by
  rw [← capHi_eq (a + b) (by omega)]
  go_enter Try.func57, Try.ntmps57
  go_wp2_with (first | simp only [add64_0 a b ha0 ha1 hb0 hb1] | (go_at_call 83; refine (capped_any _ _ _).mono ?_; rintro e w' ⟨rfl, rfl⟩))
  go_ret
  exact ⟨rfl, rfl⟩
theorem sat_under (a b c d : Int) (ha0 : 0 ≤ a) (ha1 : a ≤ 18446744073709551615) (hb0 : 0 ≤ b) (hb1 : b ≤ 18446744073709551615) (hc0 : 0 ≤ c) (hc1 : c ≤ 18446744073709551615) (hd0 : 0 ≤ d) (hd1 : d ≤ 18446744073709551615) (w : World) :
    Calls Try.prog 78 #[.int .u64 a, .int .u64 b, .int .u64 c, .int .u64 d] w fun e w' => e = .returned (.bool (decide (a * b < c * d))) ∧ w = w' := by
  have m0 := (wd_mul a b ha0 ha1 hb0 hb1).1
  have n0 := (wd_mul c d hc0 hc1 hd0 hd1).1
  by_cases h : a * b / 18446744073709551616 = c * d / 18446744073709551616
  · have e1 : (a * b / 18446744073709551616 != c * d / 18446744073709551616) = false := by simp [h]
    have e2 : decide (a * b < c * d) = decide (a * b % 18446744073709551616 < c * d % 18446744073709551616) := by rw [decide_eq_decide]; omega
    rw [e2]
    have E2 := Lib.hid e2; clear e2 h m0 n0
    go_enter Try.func78, Try.ntmps78
    go_wp2_with fail
    refine (mul64_any _ _ (by omega) (by omega) (by omega) (by omega) _).mono ?_
    rintro e w' ⟨rfl, rfl⟩
    go_wp2_with fail
    refine (mul64_any _ _ (by omega) (by omega) (by omega) (by omega) _).mono ?_
    rintro e w' ⟨rfl, rfl⟩
    go_wp2
    go_ret
    exact ⟨rfl, rfl⟩
  · have e1 : (a * b / 18446744073709551616 != c * d / 18446744073709551616) = true := by simp [h]
    have e2 : decide (a * b < c * d) = decide (a * b / 18446744073709551616 < c * d / 18446744073709551616) := by rw [decide_eq_decide]; omega
    rw [e2]
    have E2 := Lib.hid e2; clear e2 h m0 n0
    go_enter Try.func78, Try.ntmps78
    go_wp2_with fail
    refine (mul64_any _ _ (by omega) (by omega) (by omega) (by omega) _).mono ?_
    rintro e w' ⟨rfl, rfl⟩
    go_wp2_with fail
    refine (mul64_any _ _ (by omega) (by omega) (by omega) (by omega) _).mono ?_
    rintro e w' ⟨rfl, rfl⟩
    go_wp2
    go_ret
    exact ⟨rfl, rfl⟩
end Go.Proofs.Ytapjebhdgcpdjaa
