/-
  What root.Part, root.Follow and root.Mean, and the document's answers for them, return, for any words. No condition but that the numbers are words.
-/
import Derived.Test.YtdokllignldbeaaRoot
namespace Go.Proofs.Ytdokllignldbeaa
set_option linter.unusedVariables false
set_option linter.unusedSimpArgs false
open Go.ChangeShapes Go.WideShapes Go.ChangeAt Go.RowKit
attribute [local go_sem] alloc_drewN setCell_drewN

/-- What a base counts as. -/
def bas (n : Int) : Int := min n 2147483648
theorem bas_bd {n : Int} (h : 0 ≤ n) : 0 ≤ bas n ∧ bas n ≤ 2147483648 := by unfold bas; omega
/-- A part of a base. -/
def prt (n c : Int) : Int := if c = 0 then bas n else isq (bas n * bas n / c)
theorem sqb {b : Int} (h0 : 0 ≤ b) (h1 : b ≤ 2147483648) : 0 ≤ b * b ∧ b * b ≤ 4611686018427387904 := by
  have := Int.mul_le_mul h1 h1 h0 (by omega)
  exact ⟨Int.mul_nonneg h0 h0, by omega⟩

theorem part_any (n c : Int) (h0 : 0 ≤ n) (h1 : n ≤ 18446744073709551615) (c0 : 0 ≤ c) (c1 : c ≤ 18446744073709551615) (w : World) :
    Calls Try.prog 141 #[.int .u64 n, .int .u64 c] w fun e w' => e = .returned (.int .u64 (prt n c)) ∧ w = w' := by
  obtain ⟨b0, b1⟩ := bas_bd h0
  obtain ⟨s0, s1⟩ := sqb b0 b1
  unfold prt
  have eb : min n 2147483648 = bas n := rfl
  by_cases hc : c = 0
  · subst hc
    rw [if_pos rfl]
    generalize bas n = b at *
    go_enter Try.func141, Try.ntmps141
    go_wp2
    go_ret
    exact ⟨rfl, rfl⟩
  · rw [if_neg hc]
    have g : (c == 0) = false := by simp [hc]
    have hp : 0 < c := by omega
    clear hc
    generalize bas n = b at *
    have q0 : 0 ≤ b * b / c := Int.ediv_nonneg s0 c0
    have q1 : b * b / c ≤ b * b := Int.ediv_le_self _ s0
    go_enter Try.func141, Try.ntmps141
    go_wp2_with fail
    refine (sqrt_any _ (by omega) (by omega) _).mono ?_
    rintro e w' ⟨rfl, rfl⟩
    go_wp2
    go_ret
    exact ⟨rfl, rfl⟩
theorem base_any (n : Int) (h0 : 0 ≤ n) (h1 : n ≤ 18446744073709551615) (w : World) :
    Calls Try.prog 142 #[.int .u64 n] w fun e w' => e = .returned (.int .u64 (bas n)) ∧ w = w' := by
  unfold bas
  by_cases h : 2147483648 < n
  · rw [show min n 2147483648 = 2147483648 from by omega]
    go_enter Try.func142, Try.ntmps142
    go_wp2
    go_ret
    exact ⟨rfl, rfl⟩
  · rw [show min n 2147483648 = n from by omega]
    go_enter Try.func142, Try.ntmps142
    go_wp2
    go_ret
    exact ⟨rfl, rfl⟩
theorem part_ref (n c : Int) (h0 : 0 ≤ n) (h1 : n ≤ 18446744073709551615) (c0 : 0 ≤ c) (c1 : c ≤ 18446744073709551615) (w : World) :
    Calls Try.prog 91 #[.int .u64 n, .int .u64 c] w fun e w' => e = .returned (.int .u64 (prt n c)) ∧ Below w.heap.size w w' := by
  obtain ⟨b0, b1⟩ := bas_bd h0
  obtain ⟨s0, s1⟩ := sqb b0 b1
  unfold prt
  by_cases hc : c = 0
  · subst hc
    rw [if_pos rfl]
    go_enter Try.func91, Try.ntmps91
    go_wp2_with fail
    refine (base_any _ h0 h1 _).mono ?_
    rintro e w' ⟨rfl, rfl⟩
    go_wp2
    go_ret
    exact ⟨rfl, Below.refl _ _⟩
  · rw [if_neg hc]
    have g : (c == 0) = false := by simp [hc]
    have hp : 0 < c := by omega
    clear hc
    have q0 : 0 ≤ bas n * bas n / c := Int.ediv_nonneg s0 c0
    have q1 : bas n * bas n / c ≤ bas n * bas n := Int.ediv_le_self _ s0
    go_enter Try.func91, Try.ntmps91
    go_wp2_with fail
    refine (base_any _ h0 h1 _).mono ?_
    rintro e w' ⟨rfl, rfl⟩
    go_wp2_with fail
    refine (sqrt_ref _ (by omega) (by omega) _).mono ?_
    rintro e w' ⟨rfl, hb⟩
    go_wp2
    go_ret
    exact ⟨rfl, hb⟩
theorem sl_le (s : Int) : sl s ≤ 16 := by unfold sl; omega
theorem shr_bd {m : Int} (k : Nat) (h : 0 ≤ m) : 0 ≤ m / 2 ^ k ∧ m / 2 ^ k ≤ m := ⟨Int.ediv_nonneg h (Int.le_of_lt (pow2_pos k)), Int.ediv_le_self _ h⟩

theorem mean_any (m s : Int) (h0 : 0 ≤ m) (h1 : m ≤ 18446744073709551615) (s0 : -9223372036854775808 ≤ s) (s1 : s ≤ 9223372036854775807) (w : World) :
    Calls Try.prog 76 #[.int .u64 m, .int .i64 s] w fun e w' => e = .returned (.int .u64 (m / 2 ^ sl s)) ∧ w = w' := by
  have hl := sl_le s
  have e : min (max s 0) 16 = ((sl s : Nat) : Int) := by unfold sl; omega
  generalize sl s = k at *
  go_enter Try.func76, Try.ntmps76
  go_wp2
  go_ret
  exact ⟨rfl, rfl⟩
theorem parts_any (s : Int) (s0 : -9223372036854775808 ≤ s) (s1 : s ≤ 9223372036854775807) (w : World) :
    Calls Try.prog 140 #[.int .i64 s] w fun e w' => e = .returned (.int .u64 (2 ^ sl s)) ∧ w = w' := by
  have hl := sl_le s
  have e : ((sl s : Nat) : Int) = min (max s 0) 16 := by unfold sl; omega
  generalize sl s = k at *
  go_enter Try.func140, Try.ntmps140
  go_wp2
  go_loop [3, 4] (fun v i => ∃ t : Nat, t ≤ k ∧ i = .int .i64 t ∧ v = .int .u64 (2 ^ t)) (fun _ i => (16 - intOf i).toNat)
  case atStart => exact ⟨0, by omega, rfl, rfl⟩
  case round =>
    obtain ⟨t, ht, rfl, rfl⟩ := hrel
    have p0 := pow2_pos t
    have p1 : (2 : Int) ^ t ≤ 65536 := pow2_le (k := 16) (by omega)
    by_cases hlt : t < k
    · have a1 : (t : Int) < s := by omega
      have a2 : (t : Int) < 16 := by omega
      have E := Lib.hid e; clear e
      have ep := Lib.hid (pow2_succ t)
      go_wp2
      go_round
      case rel => exact ⟨t + 1, by omega, by go_num, by rw [ep.out, Int.mul_comm]⟩
      case measure => simp [intOf]; omega
    · obtain rfl : t = k := by omega
      by_cases a1 : (t : Int) < s
      · have a2 : ¬ (t : Int) < 16 := by omega
        have E := Lib.hid e; clear e
        go_wp2
        go_ret
        exact ⟨rfl, rfl⟩
      · have E := Lib.hid e; clear e
        go_wp2
        go_ret
        exact ⟨rfl, rfl⟩
theorem mean_ref (m s : Int) (h0 : 0 ≤ m) (h1 : m ≤ 18446744073709551615) (s0 : -9223372036854775808 ≤ s) (s1 : s ≤ 9223372036854775807) (w : World) :
    Calls Try.prog 81 #[.int .u64 m, .int .i64 s] w fun e w' => e = .returned (.int .u64 (m / 2 ^ sl s)) ∧ w = w' := by
  have p0 := pow2_pos (sl s)
  obtain ⟨q0, q1⟩ := shr_bd (sl s) h0
  go_enter Try.func81, Try.ntmps81
  go_wp2_with fail
  refine (parts_any _ s0 s1 _).mono ?_
  rintro e w' ⟨rfl, rfl⟩
  go_wp2
  go_ret
  exact ⟨rfl, rfl⟩
theorem follow_any (m x s : Int) (h0 : 0 ≤ m) (h1 : m ≤ 18446744073709551615) (x0 : 0 ≤ x) (x1 : x ≤ 18446744073709551615) (s0 : -9223372036854775808 ≤ s) (s1 : s ≤ 9223372036854775807) (w : World) :
    Calls Try.prog 75 #[.int .u64 m, .int .u64 x, .int .i64 s] w fun e w' => e = .returned (.int .u64 (cap (m - m / 2 ^ sl s + x))) ∧ w = w' := by
  obtain ⟨q0, q1⟩ := shr_bd (sl s) h0
  go_enter Try.func75, Try.ntmps75
  go_wp2_with fail
  refine (mean_any _ _ h0 h1 s0 s1 _).mono ?_
  rintro e w' ⟨rfl, rfl⟩
  go_wp2_with fail
  refine (sat_add _ _ (by omega) (by omega) (by omega) (by omega) _).mono ?_
  rintro e w' ⟨rfl, rfl⟩
  go_wp2
  go_ret
  exact ⟨rfl, rfl⟩
theorem follow_ref (m x s : Int) (h0 : 0 ≤ m) (h1 : m ≤ 18446744073709551615) (x0 : 0 ≤ x) (x1 : x ≤ 18446744073709551615) (s0 : -9223372036854775808 ≤ s) (s1 : s ≤ 9223372036854775807) (w : World) :
    Calls Try.prog 80 #[.int .u64 m, .int .u64 x, .int .i64 s] w fun e w' => e = .returned (.int .u64 (cap (m - m / 2 ^ sl s + x))) ∧ Below w.heap.size w w' := by
  have p0 := pow2_pos (sl s)
  obtain ⟨q0, q1⟩ := shr_bd (sl s) h0
  go_enter Try.func80, Try.ntmps80
  go_wp2_with fail
  refine (parts_any _ s0 s1 _).mono ?_
  rintro e w' ⟨rfl, rfl⟩
  go_wp2_with fail
  refine (add_ref _ _ (by omega) (by omega) (by omega) (by omega) _).mono ?_
  rintro e w' ⟨rfl, hb⟩
  go_wp2
  go_ret
  exact ⟨rfl, hb⟩
end Go.Proofs.Ytdokllignldbeaa
