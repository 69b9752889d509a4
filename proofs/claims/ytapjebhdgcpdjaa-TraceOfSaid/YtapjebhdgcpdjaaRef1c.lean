/-
  What the quotients of the document's answer for layer 1 return, for any words: MulDiv, DivUp; the sum of a list. No condition but that the numbers are words.
-/
import Derived.Test.YtapjebhdgcpdjaaRef1b
import Derived.Outline
import Derived.Deep.RegionHeld3
namespace Go.Proofs.Ytapjebhdgcpdjaa
set_option linter.unusedVariables false
set_option linter.unusedSimpArgs false
open Go.ChangeShapes Go.WideShapes Go.ChangeAt Go.RowKit
attribute [local go_sem] alloc_drewN setCell_drewN

theorem pow2_pos (k : Nat) : 0 < (2 : Int) ^ k := Int.pow_pos (by decide)
theorem pow2_succ (k : Nat) : (2 : Int) ^ (k + 1) = 2 * 2 ^ k := by rw [Int.pow_succ, Int.mul_comm]
theorem pow2_le {j k : Nat} (h : j ≤ k) : (2 : Int) ^ j ≤ 2 ^ k := by
  induction h with
  | refl => exact Int.le_refl _
  | step h ih => rw [pow2_succ]; have := pow2_pos j; omega

/-- The number with its low k bits struck. -/
def hi (q : Int) (k : Nat) : Int := q / 2 ^ k * 2 ^ k
theorem hi_zero (q : Int) : hi q 0 = q := by unfold hi; simp
theorem hi_top (q : Int) (k : Nat) (h0 : 0 ≤ q) (h : q < 2 ^ k) : hi q k = 0 := by unfold hi; rw [Int.ediv_eq_zero_of_lt h0 h, Int.zero_mul]
theorem hi_nonneg (q : Int) (k : Nat) (h0 : 0 ≤ q) : 0 ≤ hi q k := Int.mul_nonneg (Int.ediv_nonneg h0 (Int.le_of_lt (pow2_pos k))) (Int.le_of_lt (pow2_pos k))
theorem hi_room (q : Int) (k n : Nat) (hk : k ≤ n) (h0 : 0 ≤ q) (h : q < 2 ^ n) : hi q k + 2 ^ k ≤ 2 ^ n := by
  obtain ⟨j, rfl⟩ := Nat.exists_eq_add_of_le hk
  have e : (2 : Int) ^ (k + j) = 2 ^ j * 2 ^ k := by rw [Int.pow_add, Int.mul_comm]
  rw [e] at h
  have h2 : q / 2 ^ k < 2 ^ j := Int.ediv_lt_of_lt_mul (pow2_pos k) h
  have h3 : (q / 2 ^ k + 1) * 2 ^ k ≤ 2 ^ j * 2 ^ k := Int.mul_le_mul_of_nonneg_right (by omega) (Int.le_of_lt (pow2_pos k))
  rw [Int.add_mul, Int.one_mul] at h3
  unfold hi
  rw [e]
  exact h3
theorem hi_step (q : Int) (k : Nat) : hi q k = if hi q (k + 1) + 2 ^ k ≤ q then hi q (k + 1) + 2 ^ k else hi q (k + 1) := by
  unfold hi
  have hp := pow2_pos k
  have e : (2 : Int) ^ (k + 1) = 2 ^ k * 2 := by rw [Int.pow_succ]
  rw [e, ← Int.ediv_ediv_of_nonneg (Int.le_of_lt hp)]
  generalize (2 : Int) ^ k = P at *
  have h1 := Int.mul_ediv_add_emod q P
  have h2 := Int.emod_lt_of_pos q hp
  have h3 := Int.emod_nonneg q (Int.ne_of_gt hp)
  generalize q / P = d at *
  generalize q % P = r at *
  have e2 : d / 2 * (P * 2) = 2 * (d / 2 * P) := by rw [Int.mul_comm P 2, ← Int.mul_assoc, Int.mul_comm (d / 2) 2, Int.mul_assoc]
  rw [e2]
  rcases Int.emod_two_eq d with h | h
  · have e3 : d * P = 2 * (d / 2 * P) := by
      have : d = 2 * (d / 2) := by omega
      rw [← Int.mul_assoc, ← this]
    rw [e3]
    rw [Int.mul_comm P d, e3] at h1
    rw [if_neg (by omega)]
  · have e3 : d * P = 2 * (d / 2 * P) + P := by
      have : d = 2 * (d / 2) + 1 := by omega
      rw [← Int.mul_assoc]
      calc d * P = (2 * (d / 2) + 1) * P := by rw [← this]
        _ = _ := by rw [Int.add_mul, Int.one_mul]
    rw [e3]
    rw [Int.mul_comm P d, e3] at h1
    rw [if_pos (by omega)]

/-- A word's bits, laid one by one from the highest: at each step the number is its high bits. -/
theorem hi_bit (q : Int) (k : Nat) (hk : k < 64) (h0 : 0 ≤ q) (h : q ≤ 18446744073709551615) :
    0 ≤ hi q (k + 1) ∧ 0 < (2 : Int) ^ k ∧ (2 : Int) ^ k ≤ 9223372036854775808 ∧ hi q (k + 1) + 2 ^ k ≤ 18446744073709551615 ∧
    (hi q (k + 1) + 2 ^ k ≤ q → hi q k = hi q (k + 1) + 2 ^ k) ∧ (¬ hi q (k + 1) + 2 ^ k ≤ q → hi q k = hi q (k + 1)) := by
  have h1 := hi_nonneg q (k + 1) h0
  have h2 := hi_room q (k + 1) 64 (by omega) h0 (by omega)
  have h3 := hi_step q k
  have h4 := pow2_pos k
  have h5 := pow2_le (j := k) (k := 63) (by omega)
  rw [pow2_succ] at h2
  refine ⟨h1, h4, by omega, by omega, fun h => ?_, fun h => ?_⟩
  · rw [if_pos h] at h3; exact h3
  · rw [if_neg h] at h3; exact h3

theorem muldiv_pos (a b c : Int) (ha0 : 0 ≤ a) (ha1 : a ≤ 18446744073709551615) (hb0 : 0 ≤ b) (hb1 : b ≤ 18446744073709551615) (hc0 : 0 < c) (hc1 : c ≤ 18446744073709551615) (w : World) :
    Calls Try.prog 59 #[.int .u64 a, .int .u64 b, .int .u64 c] w fun e w' => e = .returned (.int .u64 (cap (a * b / c))) ∧ Below w.heap.size w w' := by
  obtain ⟨q0, q1⟩ : 0 ≤ cap (a * b / c) ∧ cap (a * b / c) ≤ 18446744073709551615 := cap_wd (Int.ediv_nonneg (wd_mul a b ha0 ha1 hb0 hb1).1 (Int.le_of_lt hc0))
  have key : ∀ m : Int, m ≤ 18446744073709551615 → (decide (a * b < m * c) = !decide (m ≤ cap (a * b / c))) := by
    intro m hm
    have h := Int.le_ediv_iff_mul_le (a := m) (b := a * b) hc0
    have h2 : m ≤ cap (a * b / c) ↔ m ≤ a * b / c := by unfold cap; split <;> omega
    by_cases h3 : m * c ≤ a * b
    · rw [decide_eq_true (h2.2 (h.2 h3)), decide_eq_false (by omega)]; rfl
    · rw [decide_eq_false (fun x => h3 (h.1 (h2.1 x))), decide_eq_true (by omega)]; rfl
  generalize cap (a * b / c) = q at *
  go_enter Try.func59, Try.ntmps59
  go_wp2_with fail
  refine (times_any _ _ (by omega) (by omega) (by omega) (by omega) _).mono ?_
  rintro e w' ⟨z0, z1, z2, z3, rfl, hz, hb⟩
  have KEY := Lib.hid key; clear key
  go_wp2
  obtain ⟨W1, hW1⟩ : ∃ x, x = w'.alloc (.cells #[.int .u64 z0, .int .u64 z1, .int .u64 z2, .int .u64 z3] 96) := ⟨_, rfl⟩
  have c0 : W1.cell? ⟨w'.heap.size, 0, none⟩ = some (.int .u64 z0) := by rw [hW1]; simp [go_sem]
  have c1 : W1.cell? ⟨w'.heap.size, 1, none⟩ = some (.int .u64 z1) := by rw [hW1]; simp [go_sem]
  have c2 : W1.cell? ⟨w'.heap.size, 2, none⟩ = some (.int .u64 z2) := by rw [hW1]; simp [go_sem]
  have c3 : W1.cell? ⟨w'.heap.size, 3, none⟩ = some (.int .u64 z3) := by rw [hW1]; simp [go_sem]
  have hs : w'.heap.size < W1.heap.size := by rw [hW1]; simp
  have hB : Below w.heap.size w W1 := by rw [hW1]; exact hb.trans ((Below.refl _ _).alloc hb.size _)
  rw [← hW1]
  clear hW1
  go_loopw [8, 9] (fun v i wr => ∃ k : Nat, k ≤ 64 ∧ i = .int .i64 ((k : Int) - 1) ∧ v = .int .u64 (hi q k) ∧ Below W1.heap.size W1 wr) (fun _ i _ => (1 + intOf i).toNat)
  case atStart => exact ⟨64, by omega, rfl, by rw [hi_top q 64 q0 (by omega)], Below.refl _ _⟩
  case round =>
    obtain ⟨k, hk, rfl, rfl, hr⟩ := hrel
    match k with
    | 0 =>
      rw [hi_zero]
      go_wp2
      go_ret
      exact ⟨rfl, hB.trans (hr.mono hB.size)⟩
    | k + 1 =>
      obtain ⟨b0, b1, b2, b3, b4, b5⟩ := hi_bit q k (by omega) q0 q1
      have e : ((k + 1 : Nat) : Int) - 1 = k := by omega
      rw [e]
      clear e
      have kk := KEY.out _ b3
      have d0 := (hr.cell (p := ⟨w'.heap.size, 0, none⟩) hs).trans c0
      have d1 := (hr.cell (p := ⟨w'.heap.size, 1, none⟩) hs).trans c1
      have d2 := (hr.cell (p := ⟨w'.heap.size, 2, none⟩) hs).trans c2
      have d3 := (hr.cell (p := ⟨w'.heap.size, 3, none⟩) hs).trans c3
      have hs2 : w'.heap.size < wr.heap.size := by have := hr.size; omega
      have S0 : ∀ v, Below wr.heap.size wr v → v.cell? ⟨w'.heap.size, 0, none⟩ = some (.int .u64 z0) ∧ v.cell? ⟨w'.heap.size, 1, none⟩ = some (.int .u64 z1) ∧ v.cell? ⟨w'.heap.size, 2, none⟩ = some (.int .u64 z2) ∧ v.cell? ⟨w'.heap.size, 3, none⟩ = some (.int .u64 z3) ∧ Below wr.heap.size wr v := fun v hv =>
        ⟨(hv.cell (p := ⟨w'.heap.size, 0, none⟩) hs2).trans d0, (hv.cell (p := ⟨w'.heap.size, 1, none⟩) hs2).trans d1, (hv.cell (p := ⟨w'.heap.size, 2, none⟩) hs2).trans d2, (hv.cell (p := ⟨w'.heap.size, 3, none⟩) hs2).trans d3, hv⟩
      have S1 := Lib.hid S0; clear S0 c0 c1 c2 c3 hs hs2
      by_cases h : hi q (k + 1) + 2 ^ k ≤ q
      · have B4 := Lib.hid (b4 h)
        have kk' : decide (a * b < (hi q (k + 1) + 2 ^ k) * c) = false := by rw [kk]; simp [h]
        clear b4 b5 kk h d0 d1 d2 d3
        go_wp2
        go_region_held3 (fun v => v.cell? ⟨w'.heap.size, 0, none⟩ = some (.int .u64 z0) ∧ v.cell? ⟨w'.heap.size, 1, none⟩ = some (.int .u64 z1) ∧ v.cell? ⟨w'.heap.size, 2, none⟩ = some (.int .u64 z2) ∧ v.cell? ⟨w'.heap.size, 3, none⟩ = some (.int .u64 z3) ∧ Below wr.heap.size wr v)
          ((first | exact S1.out _ (((Below.refl _ wr).drew.trans hc).trans (hc2.mono hc.size)) | exact S1.out _ ((Below.refl _ wr).drew.trans hc) | exact S1.out _ (Below.refl _ wr).drew))
          (first
            | (go_at_call 46; refine (times_any _ _ (by omega) (by omega) (by omega) (by omega) _).mono ?_; rintro e w2 ⟨u0, u1, u2, u3, rfl, hu, hc⟩)
            | (go_at_call 47; refine (less_any _ _ _ _ _ _ _ _ _ _ hz (by assumption) _).mono ?_; rintro e w3 ⟨rfl, hc2⟩))
        go_wp2
        go_roundw
        case rel => exact ⟨k, by omega, rfl, by rw [B4.out], hr.trans (Below.mono (((Below.refl _ wr).drew.trans hc).trans (hc2.mono hc.size)) hr.size)⟩
        case measure => simp [intOf]; omega
      · have B5 := Lib.hid (b5 h)
        have kk' : decide (a * b < (hi q (k + 1) + 2 ^ k) * c) = true := by rw [kk]; simp [h]
        clear b4 b5 kk h d0 d1 d2 d3
        go_wp2
        go_region_held3 (fun v => v.cell? ⟨w'.heap.size, 0, none⟩ = some (.int .u64 z0) ∧ v.cell? ⟨w'.heap.size, 1, none⟩ = some (.int .u64 z1) ∧ v.cell? ⟨w'.heap.size, 2, none⟩ = some (.int .u64 z2) ∧ v.cell? ⟨w'.heap.size, 3, none⟩ = some (.int .u64 z3) ∧ Below wr.heap.size wr v)
          ((first | exact S1.out _ (((Below.refl _ wr).drew.trans hc).trans (hc2.mono hc.size)) | exact S1.out _ ((Below.refl _ wr).drew.trans hc) | exact S1.out _ (Below.refl _ wr).drew))
          (first
            | (go_at_call 46; refine (times_any _ _ (by omega) (by omega) (by omega) (by omega) _).mono ?_; rintro e w2 ⟨u0, u1, u2, u3, rfl, hu, hc⟩)
            | (go_at_call 47; refine (less_any _ _ _ _ _ _ _ _ _ _ hz (by assumption) _).mono ?_; rintro e w3 ⟨rfl, hc2⟩))
        go_wp2
        go_roundw
        case rel => exact ⟨k, by omega, rfl, by rw [B5.out], hr.trans (Below.mono (((Below.refl _ wr).drew.trans hc).trans (hc2.mono hc.size)) hr.size)⟩
        case measure => simp [intOf]; omega
/-- A product of two, divided by a third one, capped; the greatest number where that is 0. -/
def mdiv (a b c : Int) : Int := if c = 0 then 18446744073709551615 else cap (a * b / c)

theorem muldiv_ref (a b c : Int) (ha0 : 0 ≤ a) (ha1 : a ≤ 18446744073709551615) (hb0 : 0 ≤ b) (hb1 : b ≤ 18446744073709551615) (hc0 : 0 ≤ c) (hc1 : c ≤ 18446744073709551615) (w : World) :
    Calls Try.prog 59 #[.int .u64 a, .int .u64 b, .int .u64 c] w fun e w' => e = .returned (.int .u64 (mdiv a b c)) ∧ Below w.heap.size w w' := by
  unfold mdiv
  by_cases h : c = 0
  · subst h
    rw [if_pos rfl]
    go_enter Try.func59, Try.ntmps59
    go_wp2
    go_ret
    exact ⟨rfl, Below.refl _ _⟩
  · rw [if_neg h]
    exact muldiv_pos a b c ha0 ha1 hb0 hb1 (by omega) hc1 w
/-- A quotient, rounded up, capped where there is none. -/
def up (a b : Int) : Int := if a = 0 then 0 else if b = 0 then 18446744073709551615 else (a - 1) / b + 1

end Go.Proofs.Ytapjebhdgcpdjaa
