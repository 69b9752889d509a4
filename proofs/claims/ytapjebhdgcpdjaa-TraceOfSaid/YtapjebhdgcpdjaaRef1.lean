/-
  What the functions of the document's answer for layer 1 (pacemakerref01) return: for any words the sum, the product, the difference of wide numbers, which is less, what is capped; they write nothing that was there. No condition but that the numbers are words.
-/
import Derived.Test.YtapjebhdgcpdjaaRows
import Derived.Test.YtapjebhdgcpdjaaBase
namespace Go.Proofs.Ytapjebhdgcpdjaa
set_option linter.unusedVariables false
set_option linter.unusedSimpArgs false
open Go.ChangeShapes Go.WideShapes Go.ChangeAt Go.RowKit
attribute [local go_sem] alloc_drewN setCell_drewN

theorem of_any (a : Int) (h0 : 0 ≤ a) (h1 : a ≤ 18446744073709551615) (w : World) :
    Calls Try.prog 75 #[.int .u64 a] w fun e w' => ∃ a0 a1 o, e = .returned (.agg #[.int .u64 (a0), .int .u64 (a1), .int .u64 (0), .int .u64 (0)]) ∧ Wide a0 a1 0 0 a ∧ w' = w.alloc (.cells o 96) := by
  go_enter Try.func75, Try.ntmps75
  go_wp2
  go_returns
  exact ⟨_, _, _, rfl, ⟨⟨by omega, by omega⟩, ⟨by omega, by omega⟩, ⟨by omega, by omega⟩, ⟨by omega, by omega⟩, by omega⟩, rfl⟩
set_option maxHeartbeats 1000000 in
theorem times_any (a b : Int) (ha0 : 0 ≤ a) (ha1 : a ≤ 18446744073709551615) (hb0 : 0 ≤ b) (hb1 : b ≤ 18446744073709551615) (w : World) :
    Calls Try.prog 46 #[.int .u64 a, .int .u64 b] w fun e w' => ∃ c0 c1 c2 c3, e = .returned (.agg #[.int .u64 (c0), .int .u64 (c1), .int .u64 (c2), .int .u64 (c3)]) ∧ Wide c0 c1 c2 c3 (a * b) ∧ Below w.heap.size w w' := by
  go_enter Try.func46, Try.ntmps46
  go_wp2_with fail
  refine (of_any _ (by omega) (by omega) _).mono ?_
  rintro e w' ⟨x0, x1, o1, rfl, ⟨⟨hx00, hx01⟩, ⟨hx10, hx11⟩, _, _, hx⟩, rfl⟩
  have HX := Lib.hid hx; clear hx
  go_wp2_with fail
  refine (of_any _ (by omega) (by omega) _).mono ?_
  rintro e w' ⟨y0, y1, o2, rfl, ⟨⟨hy00, hy01⟩, ⟨hy10, hy11⟩, _, _, hy⟩, rfl⟩
  have HY := Lib.hid hy; clear hy
  obtain ⟨p1, p2⟩ := dg_mul x0 y0 hx00 hx01 hy00 hy01
  obtain ⟨q1, q2⟩ := dg_mul x0 y1 hx00 hx01 hy10 hy11
  obtain ⟨r1, r2⟩ := dg_mul x1 y0 hx10 hx11 hy00 hy01
  obtain ⟨s1, s2⟩ := dg_mul x1 y1 hx10 hx11 hy10 hy11
  go_wp2
  refine wp_loop_rounds 3 ?_
  rw [rounds_succ]
  go_wp2
  refine wp_loop_rounds 3 ?_
  rw [rounds_succ]
  go_wp2
  go_quiet (fail)
  go_wp2
  rw [rounds_succ]
  go_wp2
  go_quiet (fail)
  go_wp2
  rw [rounds_succ]
  go_wp2
  rw [rounds_succ]
  go_wp2
  refine wp_loop_rounds 3 ?_
  rw [rounds_succ]
  go_wp2
  go_quiet (fail)
  go_wp2
  rw [rounds_succ]
  go_wp2
  go_quiet (fail)
  go_wp2
  rw [rounds_succ]
  go_wp2
  rw [rounds_succ]
  go_wp2
  go_returns
  have HX' := HX.out
  have HY' := HY.out
  refine ⟨_, _, _, _, rfl, ⟨⟨by omega, by omega⟩, ⟨by omega, by omega⟩, ⟨by omega, by omega⟩, ⟨by omega, by omega⟩, ?_⟩, ?_⟩
  · have e : a * b = x0 * y0 + (x0 * y1 + x1 * y0) * 4294967296 + x1 * y1 * 18446744073709551616 := by
      have ea : a = x0 + x1 * 4294967296 := by omega
      have eb : b = y0 + y1 * 4294967296 := by omega
      rw [ea, eb]
      exact mul_digits _ _ _ _
    rw [e]
    omega
  · repeat' (first
      | (with_reducible exact Below.refl _ _) | (with_reducible assumption) | (with_reducible refine Below.alloc ?_ ?_ _) | (with_reducible refine below_drewN _ ?_) | (with_reducible refine Below.drew ?_) | (with_reducible refine Below.setCell ?_ ?_ _) | go_size)
set_option maxHeartbeats 1000000 in
theorem plus_any (a0 a1 a2 a3 b0 b1 b2 b3 m n : Int) (ha : Wide a0 a1 a2 a3 m) (hb : Wide b0 b1 b2 b3 n) (hs : m + n < 340282366920938463463374607431768211456) (w : World) :
    Calls Try.prog 45 #[(.agg #[.int .u64 (a0), .int .u64 (a1), .int .u64 (a2), .int .u64 (a3)]), (.agg #[.int .u64 (b0), .int .u64 (b1), .int .u64 (b2), .int .u64 (b3)])] w fun e w' => ∃ c0 c1 c2 c3, e = .returned (.agg #[.int .u64 (c0), .int .u64 (c1), .int .u64 (c2), .int .u64 (c3)]) ∧ Wide c0 c1 c2 c3 (m + n) ∧ Below w.heap.size w w' := by
  obtain ⟨⟨ha00, ha01⟩, ⟨ha10, ha11⟩, ⟨ha20, ha21⟩, ⟨ha30, ha31⟩, hm⟩ := ha
  obtain ⟨⟨hb00, hb01⟩, ⟨hb10, hb11⟩, ⟨hb20, hb21⟩, ⟨hb30, hb31⟩, hn⟩ := hb
  have HM := Lib.hid hm; clear hm
  have HN := Lib.hid hn; clear hn
  go_enter Try.func45, Try.ntmps45
  go_wp2
  refine wp_loop_rounds 5 ?_
  rw [rounds_succ]
  go_wp2
  go_quiet (fail)
  go_wp2
  rw [rounds_succ]
  go_wp2
  go_quiet (fail)
  go_wp2
  rw [rounds_succ]
  go_wp2
  go_quiet (fail)
  go_wp2
  rw [rounds_succ]
  go_wp2
  go_quiet (fail)
  go_wp2
  rw [rounds_succ]
  go_wp2
  go_returns
  have HM' := HM.out
  have HN' := HN.out
  refine ⟨_, _, _, _, rfl, ⟨⟨by omega, by omega⟩, ⟨by omega, by omega⟩, ⟨by omega, by omega⟩, ⟨by omega, by omega⟩, ?_⟩, ?_⟩
  · omega
  · repeat' (first
      | (with_reducible exact Below.refl _ _) | (with_reducible assumption) | (with_reducible refine Below.alloc ?_ ?_ _) | (with_reducible refine below_drewN _ ?_) | (with_reducible refine Below.drew ?_) | (with_reducible refine Below.setCell ?_ ?_ _) | go_size)
theorem cap_any (a0 a1 a2 a3 m : Int) (ha : Wide a0 a1 a2 a3 m) (w : World) :
    Calls Try.prog 76 #[(.agg #[.int .u64 (a0), .int .u64 (a1), .int .u64 (a2), .int .u64 (a3)])] w fun e w' => e = .returned (.int .u64 (cap m)) ∧ Below w.heap.size w w' := by
  have ha' := ha
  obtain ⟨⟨ha00, ha01⟩, ⟨ha10, ha11⟩, ⟨ha20, ha21⟩, ⟨ha30, ha31⟩, hm⟩ := ha'
  by_cases h2 : a2 = 0
  · by_cases h3 : a3 = 0
    · have e : cap m = a1 * 4294967296 + a0 := by rw [cap_of (by omega)]; omega
      rw [e]
      clear e hm ha
      subst h2; subst h3
      go_enter Try.func76, Try.ntmps76
      go_wp2
      go_ret
      exact ⟨rfl, by go_grown⟩
    · rw [cap_over (by omega)]
      clear hm ha
      subst h2
      go_enter Try.func76, Try.ntmps76
      go_wp2
      all_goals (go_ret; exact ⟨rfl, by go_grown⟩)
  · rw [cap_over (by omega)]
    clear hm ha
    go_enter Try.func76, Try.ntmps76
    go_wp2
    all_goals (go_ret; exact ⟨rfl, by go_grown⟩)
set_option maxHeartbeats 1000000 in
theorem less_3 (a0 a1 a2 a3 b0 b1 b2 b3 : Int) (e3 : a3 ≠ b3) (w : World) :
    Calls Try.prog 47 #[(.agg #[.int .u64 (a0), .int .u64 (a1), .int .u64 (a2), .int .u64 (a3)]), (.agg #[.int .u64 (b0), .int .u64 (b1), .int .u64 (b2), .int .u64 (b3)])] w fun e w' => e = .returned (.bool (decide (a3 < b3))) ∧ Below w.heap.size w w' := by
  have g3 : (a3 != b3) = true := by simp [e3]
  clear e3
  go_enter Try.func47, Try.ntmps47
  go_wp2
  refine wp_loop_rounds 5 ?_
  rw [rounds_succ]
  go_wp2
  go_quiet (fail)
  go_wp2
  go_quiet (fail)
  go_wp2
  go_ret
  exact ⟨rfl, by repeat' (first
    | (with_reducible exact Below.refl _ _) | (with_reducible assumption) | (with_reducible refine Below.alloc ?_ ?_ _) | (with_reducible refine below_drewN _ ?_) | (with_reducible refine Below.drew ?_) | (with_reducible refine Below.setCell ?_ ?_ _) | go_size)⟩
set_option maxHeartbeats 1000000 in
theorem less_2 (a0 a1 a2 a3 b0 b1 b2 b3 : Int) (e3 : a3 = b3) (e2 : a2 ≠ b2) (w : World) :
    Calls Try.prog 47 #[(.agg #[.int .u64 (a0), .int .u64 (a1), .int .u64 (a2), .int .u64 (a3)]), (.agg #[.int .u64 (b0), .int .u64 (b1), .int .u64 (b2), .int .u64 (b3)])] w fun e w' => e = .returned (.bool (decide (a2 < b2))) ∧ Below w.heap.size w w' := by
  have g3 : (a3 != b3) = false := by simp [e3]
  have g2 : (a2 != b2) = true := by simp [e2]
  clear e3 e2
  go_enter Try.func47, Try.ntmps47
  go_wp2
  refine wp_loop_rounds 5 ?_
  rw [rounds_succ]
  go_wp2
  go_quiet (fail)
  go_wp2
  rw [rounds_succ]
  go_wp2
  go_quiet (fail)
  go_wp2
  go_quiet (fail)
  go_wp2
  go_ret
  exact ⟨rfl, by repeat' (first
    | (with_reducible exact Below.refl _ _) | (with_reducible assumption) | (with_reducible refine Below.alloc ?_ ?_ _) | (with_reducible refine below_drewN _ ?_) | (with_reducible refine Below.drew ?_) | (with_reducible refine Below.setCell ?_ ?_ _) | go_size)⟩
set_option maxHeartbeats 1000000 in
theorem less_1 (a0 a1 a2 a3 b0 b1 b2 b3 : Int) (e3 : a3 = b3) (e2 : a2 = b2) (e1 : a1 ≠ b1) (w : World) :
    Calls Try.prog 47 #[(.agg #[.int .u64 (a0), .int .u64 (a1), .int .u64 (a2), .int .u64 (a3)]), (.agg #[.int .u64 (b0), .int .u64 (b1), .int .u64 (b2), .int .u64 (b3)])] w fun e w' => e = .returned (.bool (decide (a1 < b1))) ∧ Below w.heap.size w w' := by
  have g3 : (a3 != b3) = false := by simp [e3]
  have g2 : (a2 != b2) = false := by simp [e2]
  have g1 : (a1 != b1) = true := by simp [e1]
  clear e3 e2 e1
  go_enter Try.func47, Try.ntmps47
  go_wp2
  refine wp_loop_rounds 5 ?_
  rw [rounds_succ]
  go_wp2
  go_quiet (fail)
  go_wp2
  rw [rounds_succ]
  go_wp2
  go_quiet (fail)
  go_wp2
  rw [rounds_succ]
  go_wp2
  go_quiet (fail)
  go_wp2
  go_quiet (fail)
  go_wp2
  go_ret
  exact ⟨rfl, by repeat' (first
    | (with_reducible exact Below.refl _ _) | (with_reducible assumption) | (with_reducible refine Below.alloc ?_ ?_ _) | (with_reducible refine below_drewN _ ?_) | (with_reducible refine Below.drew ?_) | (with_reducible refine Below.setCell ?_ ?_ _) | go_size)⟩
set_option maxHeartbeats 1000000 in
theorem less_0 (a0 a1 a2 a3 b0 b1 b2 b3 : Int) (e3 : a3 = b3) (e2 : a2 = b2) (e1 : a1 = b1) (e0 : a0 ≠ b0) (w : World) :
    Calls Try.prog 47 #[(.agg #[.int .u64 (a0), .int .u64 (a1), .int .u64 (a2), .int .u64 (a3)]), (.agg #[.int .u64 (b0), .int .u64 (b1), .int .u64 (b2), .int .u64 (b3)])] w fun e w' => e = .returned (.bool (decide (a0 < b0))) ∧ Below w.heap.size w w' := by
  have g3 : (a3 != b3) = false := by simp [e3]
  have g2 : (a2 != b2) = false := by simp [e2]
  have g1 : (a1 != b1) = false := by simp [e1]
  have g0 : (a0 != b0) = true := by simp [e0]
  clear e3 e2 e1 e0
  go_enter Try.func47, Try.ntmps47
  go_wp2
  refine wp_loop_rounds 5 ?_
  rw [rounds_succ]
  go_wp2
  go_quiet (fail)
  go_wp2
  rw [rounds_succ]
  go_wp2
  go_quiet (fail)
  go_wp2
  rw [rounds_succ]
  go_wp2
  go_quiet (fail)
  go_wp2
  rw [rounds_succ]
  go_wp2
  go_quiet (fail)
  go_wp2
  go_quiet (fail)
  go_wp2
  go_ret
  exact ⟨rfl, by repeat' (first
    | (with_reducible exact Below.refl _ _) | (with_reducible assumption) | (with_reducible refine Below.alloc ?_ ?_ _) | (with_reducible refine below_drewN _ ?_) | (with_reducible refine Below.drew ?_) | (with_reducible refine Below.setCell ?_ ?_ _) | go_size)⟩
set_option maxHeartbeats 1000000 in
theorem less_same (a0 a1 a2 a3 b0 b1 b2 b3 : Int) (e3 : a3 = b3) (e2 : a2 = b2) (e1 : a1 = b1) (e0 : a0 = b0) (w : World) :
    Calls Try.prog 47 #[(.agg #[.int .u64 (a0), .int .u64 (a1), .int .u64 (a2), .int .u64 (a3)]), (.agg #[.int .u64 (b0), .int .u64 (b1), .int .u64 (b2), .int .u64 (b3)])] w fun e w' => e = .returned (.bool false) ∧ Below w.heap.size w w' := by
  have g3 : (a3 != b3) = false := by simp [e3]
  have g2 : (a2 != b2) = false := by simp [e2]
  have g1 : (a1 != b1) = false := by simp [e1]
  have g0 : (a0 != b0) = false := by simp [e0]
  clear e3 e2 e1 e0
  go_enter Try.func47, Try.ntmps47
  go_wp2
  refine wp_loop_rounds 5 ?_
  rw [rounds_succ]
  go_wp2
  go_quiet (fail)
  go_wp2
  rw [rounds_succ]
  go_wp2
  go_quiet (fail)
  go_wp2
  rw [rounds_succ]
  go_wp2
  go_quiet (fail)
  go_wp2
  rw [rounds_succ]
  go_wp2
  go_quiet (fail)
  go_wp2
  rw [rounds_succ]
  go_wp2
  go_ret
  exact ⟨rfl, by repeat' (first
    | (with_reducible exact Below.refl _ _) | (with_reducible assumption) | (with_reducible refine Below.alloc ?_ ?_ _) | (with_reducible refine below_drewN _ ?_) | (with_reducible refine Below.drew ?_) | (with_reducible refine Below.setCell ?_ ?_ _) | go_size)⟩
theorem less_any (a0 a1 a2 a3 b0 b1 b2 b3 m n : Int) (ha : Wide a0 a1 a2 a3 m) (hb : Wide b0 b1 b2 b3 n) (w : World) :
    Calls Try.prog 47 #[(.agg #[.int .u64 (a0), .int .u64 (a1), .int .u64 (a2), .int .u64 (a3)]), (.agg #[.int .u64 (b0), .int .u64 (b1), .int .u64 (b2), .int .u64 (b3)])] w fun e w' => e = .returned (.bool (decide (m < n))) ∧ Below w.heap.size w w' := by
  obtain ⟨l3, l2, l1, l0, l⟩ := wide_lt ha hb
  by_cases e3 : a3 = b3
  · by_cases e2 : a2 = b2
    · by_cases e1 : a1 = b1
      · by_cases e0 : a0 = b0
        · rw [← l e3 e2 e1 e0]; exact less_same _ _ _ _ _ _ _ _ e3 e2 e1 e0 w
        · rw [← l0 e3 e2 e1 e0]; exact less_0 _ _ _ _ _ _ _ _ e3 e2 e1 e0 w
      · rw [← l1 e3 e2 e1]; exact less_1 _ _ _ _ _ _ _ _ e3 e2 e1 w
    · rw [← l2 e3 e2]; exact less_2 _ _ _ _ _ _ _ _ e3 e2 w
  · rw [← l3 e3]; exact less_3 _ _ _ _ _ _ _ _ e3 w
theorem add_ref (a b : Int) (ha0 : 0 ≤ a) (ha1 : a ≤ 18446744073709551615) (hb0 : 0 ≤ b) (hb1 : b ≤ 18446744073709551615) (w : World) :
    Calls Try.prog 54 #[.int .u64 a, .int .u64 b] w fun e w' => e = .returned (.int .u64 (cap (a + b))) ∧ Below w.heap.size w w' := by
  go_enter Try.func54, Try.ntmps54
  go_wp2_with fail
  refine (of_any _ (by omega) (by omega) _).mono ?_
  rintro e w' ⟨x0, x1, o1, rfl, hx, rfl⟩
  go_wp2_with fail
  refine (of_any _ (by omega) (by omega) _).mono ?_
  rintro e w' ⟨y0, y1, o2, rfl, hy, rfl⟩
  go_wp2_with fail
  refine (plus_any _ _ _ _ _ _ _ _ _ _ hx hy (by omega) _).mono ?_
  rintro e w' ⟨z0, z1, z2, z3, rfl, hz, hb⟩
  go_wp2_with fail
  refine (cap_any _ _ _ _ _ hz _).mono ?_
  rintro e w'' ⟨rfl, hc⟩
  go_wp2
  go_ret
  exact ⟨rfl, ((((Below.refl _ _).alloc (Nat.le_refl _) _).alloc (by simp) _).trans (hb.mono (by simp; omega))).trans (hc.mono (by have := hb.size; simp at this; omega))⟩
end Go.Proofs.Ytapjebhdgcpdjaa
