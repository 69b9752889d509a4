/-
  What package red, and the document's answer for layer 18, return for any configuration and state: Check, part, Step. No condition but that the numbers are words.
-/
import Derived.Test.YtdokllignldbeaaRoot2
import Derived.Test.YtdokllignldbeaaDiv
import Derived.StillTailTactics
namespace Go.Proofs.Ytdokllignldbeaa
set_option linter.unusedVariables false
set_option linter.unusedSimpArgs false
open Go.ChangeShapes Go.WideShapes Go.ChangeAt Go.RowKit
attribute [local go_sem] alloc_drewN setCell_drewN

/-- Whether a configuration may be. -/
def rok (lo hi mo sw : Int) : Bool := decide (lo < hi ∧ hi ≤ 1099511627776 ∧ 1 ≤ mo ∧ mo ≤ 65536 ∧ 0 ≤ sw ∧ sw ≤ 16)
theorem rok_iff {lo hi mo sw : Int} : rok lo hi mo sw = true ↔ lo < hi ∧ hi ≤ 1099511627776 ∧ 1 ≤ mo ∧ mo ≤ 65536 ∧ 0 ≤ sw ∧ sw ≤ 16 := by unfold rok; exact decide_eq_true_iff
def rcf (lo hi mo sw : Int) : Value := .agg #[.int .u64 lo, .int .u64 hi, .int .u64 mo, .int .i64 sw]
/-- Which part of the packets is let go. -/
def rp (lo hi mo m : Int) : Int := mo * (m - lo) / (hi - lo)
theorem rp_bd {lo hi mo sw m : Int} (h : rok lo hi mo sw = true) (h0 : 0 ≤ lo) (h1 : lo ≤ m) (h2 : m < hi) : 0 ≤ mo * (m - lo) ∧ mo * (m - lo) ≤ 72057594037927936 ∧ 0 ≤ rp lo hi mo m ∧ rp lo hi mo m ≤ 65536 := by
  obtain ⟨a, b, c, d, _, _⟩ := rok_iff.1 h
  have k0 : 0 ≤ mo * (m - lo) := Int.mul_nonneg (by omega) (by omega)
  have k1 : mo * (m - lo) ≤ 65536 * 1099511627776 := Int.mul_le_mul d (by omega) (by omega) (by omega)
  refine ⟨k0, by omega, Int.ediv_nonneg k0 (by omega), ?_⟩
  unfold rp
  have k2 : mo * (m - lo) ≤ 65536 * (hi - lo) := Int.mul_le_mul d (by omega) (by omega) (by omega)
  exact Int.ediv_le_of_le_mul (by omega) k2
/-- The state behind a packet, and whether it is let go. -/
def rst (lo hi mo sw mean count x : Int) : Int × Int × Bool :=
  if rok lo hi mo sw = true then
    (if cap (mean - mean / 2 ^ sl sw + x) / 2 ^ sl sw < lo then (cap (mean - mean / 2 ^ sl sw + x), 0, false)
     else if hi ≤ cap (mean - mean / 2 ^ sl sw + x) / 2 ^ sl sw then (cap (mean - mean / 2 ^ sl sw + x), 0, true)
     else if 65536 ≤ cap (cap (count + 1) * rp lo hi mo (cap (mean - mean / 2 ^ sl sw + x) / 2 ^ sl sw)) then (cap (mean - mean / 2 ^ sl sw + x), 0, true)
     else (cap (mean - mean / 2 ^ sl sw + x), cap (count + 1), false))
  else (mean, count, false)

theorem rok_cases (lo hi mo sw : Int) : (rok lo hi mo sw = true ∧ lo < hi ∧ hi ≤ 1099511627776 ∧ 1 ≤ mo ∧ mo ≤ 65536 ∧ 0 ≤ sw ∧ sw ≤ 16) ∨ (rok lo hi mo sw = false ∧ (hi ≤ lo ∨ (lo < hi ∧ 1099511627776 < hi) ∨ (lo < hi ∧ hi ≤ 1099511627776 ∧ mo < 1) ∨ (lo < hi ∧ hi ≤ 1099511627776 ∧ 1 ≤ mo ∧ 65536 < mo) ∨ (lo < hi ∧ hi ≤ 1099511627776 ∧ 1 ≤ mo ∧ mo ≤ 65536 ∧ sw < 0) ∨ (lo < hi ∧ hi ≤ 1099511627776 ∧ 1 ≤ mo ∧ mo ≤ 65536 ∧ 0 ≤ sw ∧ 16 < sw))) := by
  by_cases h : rok lo hi mo sw = true
  · exact Or.inl ⟨h, rok_iff.1 h⟩
  · right
    have h' : ¬ _ := fun k => h (rok_iff.2 k)
    refine ⟨by simpa using h, by omega⟩

theorem red_check (lo hi mo sw : Int) (h0 : 0 ≤ lo) (h1 : 0 ≤ hi) (h2 : 0 ≤ mo) (w : World) :
    Calls Try.prog 35 #[.agg #[.int .u64 lo, .int .u64 hi, .int .u64 mo, .int .i64 sw]] w fun e w' => e = .returned (.int .i64 (if rok lo hi mo sw = true then 0 else 6)) ∧ w' = w.alloc (.cells #[.int .u64 lo, .int .u64 hi, .int .u64 mo, .int .i64 sw] 56) := by
  rcases rok_cases lo hi mo sw with ⟨h, a, b, c, d, e, f⟩ | ⟨h, k⟩
  · rw [h, if_pos rfl]
    clear h
    go_enter Try.func35, Try.ntmps35
    go_wp2
    go_ret
    exact ⟨rfl, rfl⟩
  · rw [h, if_neg (by decide)]
    clear h
    rcases k with a | ⟨a, b⟩ | ⟨a, b, c⟩ | ⟨a, b, c, d⟩ | ⟨a, b, c, d, e⟩ | ⟨a, b, c, d, e, f⟩ <;>
      (go_enter Try.func35, Try.ntmps35
       go_wp2
       go_ret
       exact ⟨rfl, rfl⟩)

theorem red_may (lo hi mo sw : Int) (h0 : 0 ≤ lo) (h1 : 0 ≤ hi) (h2 : 0 ≤ mo) (w : World) :
    Calls Try.prog 34 #[.agg #[.int .u64 lo, .int .u64 hi, .int .u64 mo, .int .i64 sw]] w fun e w' => e = .returned (.bool (rok lo hi mo sw)) ∧ w' = w.alloc (.cells #[.int .u64 lo, .int .u64 hi, .int .u64 mo, .int .i64 sw] 52) := by
  rcases rok_cases lo hi mo sw with ⟨h, a, b, c, d, e, f⟩ | ⟨h, k⟩
  · rw [h]
    clear h
    go_enter Try.func34, Try.ntmps34
    go_wp2
    go_ret
    exact ⟨rfl, rfl⟩
  · rw [h]
    clear h
    rcases k with a | ⟨a, b⟩ | ⟨a, b, c⟩ | ⟨a, b, c, d⟩ | ⟨a, b, c, d, e⟩ | ⟨a, b, c, d, e, f⟩ <;>
      (go_enter Try.func34, Try.ntmps34
       go_wp2
       go_ret
       exact ⟨by first | rfl | (show Ending.returned (Value.bool (decide (sw ≤ 16))) = _; rw [decide_eq_false (by omega)]), rfl⟩)

theorem red_part (lo hi mo sw m : Int) (h : rok lo hi mo sw = true) (h0 : 0 ≤ lo) (h1 : lo ≤ m) (h2 : m < hi) (w : World) :
    Calls Try.prog 79 #[.agg #[.int .u64 lo, .int .u64 hi, .int .u64 mo, .int .i64 sw], .int .u64 m] w fun e w' => e = .returned (.int .u64 (rp lo hi mo m)) ∧ ∃ n, w' = (w.alloc (.cells #[.int .u64 lo, .int .u64 hi, .int .u64 mo, .int .i64 sw] 56)).drewN n := by
  obtain ⟨a, b, c, d, _, _⟩ := rok_iff.1 h
  obtain ⟨k0, k1, k2, k3⟩ := rp_bd h h0 h1 h2
  have e : mdiv mo (m - lo) (hi - lo) = rp lo hi mo m := by
    unfold mdiv rp
    rw [if_neg (by omega)]
    exact cap_of (by unfold rp at k3; omega)
  have E := Lib.hid e
  clear e k0 k1 h
  generalize rp lo hi mo m = r at *
  go_enter Try.func79, Try.ntmps79
  go_wp2_with fail
  refine (sat_muldiv _ _ _ (by omega) (by omega) (by omega) (by omega) (by omega) (by omega) _).mono ?_
  rintro e w' ⟨n, rfl, rfl⟩
  rw [E.out]
  go_wp2
  go_ret
  exact ⟨rfl, n, rfl⟩

theorem red_rpart (lo hi mo sw m : Int) (h : rok lo hi mo sw = true) (h0 : 0 ≤ lo) (h1 : lo ≤ m) (h2 : m < hi) (w : World) :
    Calls Try.prog 39 #[.agg #[.int .u64 lo, .int .u64 hi, .int .u64 mo, .int .i64 sw], .int .u64 m] w fun e w' => e = .returned (.int .u64 (rp lo hi mo m)) ∧ w' = w.alloc (.cells #[.int .u64 lo, .int .u64 hi, .int .u64 mo, .int .i64 sw] 52) := by
  obtain ⟨a, b, c, d, _, _⟩ := rok_iff.1 h
  obtain ⟨k0, k1, k2, k3⟩ := rp_bd h h0 h1 h2
  unfold rp at k2 k3 ⊢
  have w1 : IntKind.u64.wrap (m - lo) = m - lo := by rw [IntKind.wrap_u64]; omega
  have w2 : IntKind.u64.wrap (mo * (m - lo)) = mo * (m - lo) := by rw [IntKind.wrap_u64]; omega
  have w3 : IntKind.u64.wrap (hi - lo) = hi - lo := by rw [IntKind.wrap_u64]; omega
  have w4 : IntKind.u64.wrap ((mo * (m - lo)).tdiv (hi - lo)) = mo * (m - lo) / (hi - lo) := by rw [Int.tdiv_eq_ediv_of_nonneg (by omega), IntKind.wrap_u64]; omega
  have nz : ¬ (hi - lo) = 0 := by omega
  clear h
  go_enter Try.func39, Try.ntmps39
  go_wp2
  go_ret
  exact ⟨rfl, rfl⟩
end Go.Proofs.Ytdokllignldbeaa
