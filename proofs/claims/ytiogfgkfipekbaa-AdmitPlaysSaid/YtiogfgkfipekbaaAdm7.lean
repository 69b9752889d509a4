/-
  Package admit: whether the limits of any configuration may be. No condition but that the numbers are words.
-/
import Derived.Test.YtiogfgkfipekbaaAdm1
namespace Go.Proofs.Ytiogfgkfipekbaa
set_option linter.unusedVariables false
set_option linter.unusedSimpArgs false
open Go.ChangeShapes Go.WideShapes Go.ChangeAt Go.RowKit
attribute [local go_sem] alloc_drewN setCell_drewN

/-- Whether the limits may be. -/
def capsC (pk by_ sh : Int) : Bool := decide (1 ≤ pk ∧ pk ≤ 4096 ∧ 0 ≤ sh ∧ sh ≤ 16 ∧ 1 ≤ by_ ∧ by_ ≤ 18446744073709551615 / 2 ^ sh.toNat)
theorem capsC_iff {pk by_ sh : Int} : capsC pk by_ sh = true ↔ 1 ≤ pk ∧ pk ≤ 4096 ∧ 0 ≤ sh ∧ sh ≤ 16 ∧ 1 ≤ by_ ∧ by_ ≤ 18446744073709551615 / 2 ^ sh.toNat := by unfold capsC; exact decide_eq_true_iff
theorem capsC_no {pk by_ sh : Int} (h : ¬ (1 ≤ pk ∧ pk ≤ 4096 ∧ 0 ≤ sh ∧ sh ≤ 16 ∧ 1 ≤ by_ ∧ by_ ≤ 18446744073709551615 / 2 ^ sh.toNat)) : capsC pk by_ sh = false := by
  cases e : capsC pk by_ sh with
  | false => rfl
  | true => exact absurd (capsC_iff.1 e) h
set_option maxRecDepth 100000 in
set_option maxHeartbeats 1000000 in
theorem acaps (r bk lv qu pk by_ sh mtu rate burst : Int) (a : Option Addr) (n cc : Nat) (b0 : 0 ≤ by_) (b1 : by_ ≤ 18446744073709551615) (w : World) : Calls Try.prog 50 #[.agg #[.int .i64 r, .int .i64 bk, .int .i64 lv, .int .i64 qu, .int .i64 pk, .int .u64 by_, .int .i64 sh, .int .u64 mtu, .int .u64 rate, .int .u64 burst, .slice a n cc]] w fun e w' => e = .returned (.bool (capsC pk by_ sh)) ∧ Below w.heap.size w w' := by
  by_cases h1 : pk < 1
  · rw [capsC_no (fun h => by omega)]
    go_enter Try.func50, Try.ntmps50
    go_wp2
    go_ret
    refine ⟨rfl, ?_⟩
    repeat' (first | exact Below.refl _ _ | refine Below.alloc ?_ (by simp; try omega) _)
  · by_cases h2 : 4096 < pk
    · rw [capsC_no (fun h => by omega)]
      go_enter Try.func50, Try.ntmps50
      go_wp2
      go_ret
      refine ⟨rfl, ?_⟩
      repeat' (first | exact Below.refl _ _ | refine Below.alloc ?_ (by simp; try omega) _)
    · by_cases h3 : sh < 0
      · rw [capsC_no (fun h => by omega)]
        go_enter Try.func50, Try.ntmps50
        go_wp2
        go_ret
        refine ⟨rfl, ?_⟩
        repeat' (first | exact Below.refl _ _ | refine Below.alloc ?_ (by simp; try omega) _)
      · by_cases h4 : 16 < sh
        · rw [capsC_no (fun h => by omega)]
          go_enter Try.func50, Try.ntmps50
          go_wp2
          go_ret
          refine ⟨rfl, ?_⟩
          repeat' (first | exact Below.refl _ _ | refine Below.alloc ?_ (by simp; try omega) _)
        · obtain ⟨k, rfl⟩ : ∃ k : Nat, sh = k := ⟨sh.toNat, by omega⟩
          have hk : k ≤ 16 := by omega
          have p0 := pow2_pos k
          have e0 : 0 ≤ (18446744073709551615 : Int) / 2 ^ k := Int.ediv_nonneg (by decide) (by omega)
          have e1 : (18446744073709551615 : Int) / 2 ^ k ≤ 18446744073709551615 := Int.ediv_le_self _ (by decide)
          by_cases h5 : by_ < 1
          · rw [capsC_no (fun h => by omega)]
            have g5 : decide (1 ≤ by_) = false := decide_eq_false (by omega)
            have g6 : decide (by_ < 1) = true := decide_eq_true h5
            go_enter Try.func50, Try.ntmps50
            go_wp2
            go_quiet (fail)
            go_wp2
            go_ret
            refine ⟨rfl, ?_⟩
            repeat' (first | exact Below.refl _ _ | refine below_drewN _ ?_ | refine Below.drew ?_ | refine Below.alloc ?_ (by simp; try omega) _)
          · have g5 : decide (1 ≤ by_) = true := decide_eq_true (by omega)
            have g6 : decide (by_ < 1) = false := decide_eq_false h5
            by_cases h6 : by_ ≤ 18446744073709551615 / 2 ^ k
            · rw [capsC_iff.2 ⟨by omega, by omega, by omega, by omega, by omega, by rw [Int.toNat_natCast]; exact h6⟩]
              have g7 : decide (by_ ≤ 18446744073709551615 / 2 ^ k) = true := decide_eq_true h6
              go_enter Try.func50, Try.ntmps50
              go_wp2
              go_quiet (fail)
              go_wp2
              go_ret
              refine ⟨rfl, ?_⟩
              repeat' (first | exact Below.refl _ _ | refine below_drewN _ ?_ | refine Below.drew ?_ | refine Below.alloc ?_ (by simp; try omega) _)
            · rw [capsC_no (fun h => h6 (by have := h.2.2.2.2.2; rw [Int.toNat_natCast] at this; exact this))]
              have g7 : decide (by_ ≤ 18446744073709551615 / 2 ^ k) = false := decide_eq_false h6
              go_enter Try.func50, Try.ntmps50
              go_wp2
              go_quiet (fail)
              go_wp2
              go_ret
              refine ⟨rfl, ?_⟩
              repeat' (first | exact Below.refl _ _ | refine below_drewN _ ?_ | refine Below.drew ?_ | refine Below.alloc ?_ (by simp; try omega) _)
end Go.Proofs.Ytiogfgkfipekbaa
