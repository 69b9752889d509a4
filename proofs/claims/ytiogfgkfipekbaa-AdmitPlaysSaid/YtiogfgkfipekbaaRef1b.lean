/-
  What the other functions of the document's answer for layer 1 (pacemakerref01) return, for any words: differences, products, doublings, sums, quotients, which product is less. No condition but that the numbers are words.
-/
import Derived.Test.YtiogfgkfipekbaaRef1
import Derived.Outline
namespace Go.Proofs.Ytiogfgkfipekbaa
set_option linter.unusedVariables false
set_option linter.unusedSimpArgs false
open Go.ChangeShapes Go.WideShapes Go.ChangeAt Go.RowKit
attribute [local go_sem] alloc_drewN setCell_drewN

/-- A difference that stops at 0. -/
def sub0 (a b : Int) : Int := if a < b then 0 else a - b

def shl (a : Int) (k : Nat) : Int := cap (a * 2 ^ k)
theorem shl_zero (a : Int) (h : a ≤ 18446744073709551615) : shl a 0 = a := by unfold shl; rw [Int.pow_zero, Int.mul_one]; exact cap_of h
theorem shl_nonneg (a : Int) (h : 0 ≤ a) (k : Nat) : 0 ≤ a * 2 ^ k := Int.mul_nonneg h (Int.pow_nonneg (by decide))
theorem shl_wd (a : Int) (h : 0 ≤ a) (k : Nat) : 0 ≤ shl a k ∧ shl a k ≤ 18446744073709551615 := cap_wd (shl_nonneg a h k)
theorem shl_succ (a : Int) (h : 0 ≤ a) (k : Nat) : cap (shl a k + shl a k) = shl a (k + 1) := by
  have h1 := shl_nonneg a h k
  have e : a * 2 ^ (k + 1) = a * 2 ^ k + a * 2 ^ k := by rw [Int.pow_succ, ← Int.mul_assoc]; omega
  unfold shl
  rw [e]
  generalize a * 2 ^ k = n at *
  unfold cap
  split <;> split <;> (try split) <;> omega

theorem shift_ref (a n : Int) (ha0 : 0 ≤ a) (ha1 : a ≤ 18446744073709551615) (hn0 : -9223372036854775808 ≤ n) (hn1 : n ≤ 9223372036854775807) (w : World) :
    Calls Try.prog 60 #[.int .u64 a, .int .i64 n] w fun e w' => e = .returned (.int .u64 (shl a (min n.toNat 64))) ∧ Below w.heap.size w w' := by
  go_enter Try.func60, Try.ntmps60
  go_wp2
  go_loopw [0, 5] (fun v i w' => ∃ k : Nat, k ≤ min n.toNat 64 ∧ i = .int .i64 k ∧ v = .int .u64 (shl a k) ∧ Below w.heap.size w w') (fun _ i _ => 64 - (intOf i).toNat)
  case atStart => exact ⟨0, by omega, rfl, by rw [shl_zero a ha1], Below.refl _ _⟩
  case round =>
    obtain ⟨k, hk, rfl, rfl, hb⟩ := hrel
    obtain ⟨s0, s1⟩ := shl_wd a ha0 k
    by_cases h1 : (k : Int) < n
    · by_cases h2 : k < 64
      · have HS := Lib.hid (shl_succ a ha0 k)
        go_wp2_with fail
        refine (add_ref _ _ s0 s1 s0 s1 _).mono ?_
        rintro e w'' ⟨rfl, hc⟩
        rw [HS.out]
        go_wp2
        go_roundw
        case rel => exact ⟨k + 1, by omega, by go_num, rfl, hb.trans (hc.mono hb.size)⟩
        case measure => simp [intOf]; omega
      · obtain rfl : k = 64 := by omega
        have e : min n.toNat 64 = 64 := by omega
        have E := Lib.hid e; clear e
        go_wp2
        go_ret
        exact ⟨by rw [E.out]; rfl, hb⟩
    · have e : min n.toNat 64 = k := by omega
      have E := Lib.hid e; clear e
      go_wp2
      go_ret
      exact ⟨by rw [E.out]; rfl, hb⟩
end Go.Proofs.Ytiogfgkfipekbaa
