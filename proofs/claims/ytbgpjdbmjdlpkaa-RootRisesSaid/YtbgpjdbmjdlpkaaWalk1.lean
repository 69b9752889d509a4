/-
  The laws of layer 1, walked: each returns true for any words. No condition.
-/
import Derived.Test.YtbgpjdbmjdlpkaaSat2
import Derived.Outline
import Derived.Laws.StructEq
namespace Go.Proofs.Ytbgpjdbmjdlpkaa
set_option linter.unusedVariables false
set_option linter.unusedSimpArgs false
open Go.ChangeShapes Go.WideShapes Go.ChangeAt Go.RowKit

theorem wrap_lo (a : Int) : -9223372036854775808 ≤ wrap64 a := by unfold wrap64; omega
theorem wrap_hi (a : Int) : wrap64 a ≤ 9223372036854775807 := by unfold wrap64; omega
theorem Below.go {w a b : World} (h : Below w.heap.size w a) (k : Below a.heap.size a b) : Below w.heap.size w b := h.trans (k.mono h.size)

set_option maxHeartbeats 1000000 in
theorem walk_satAdds (a : Int) (a0 : 0 ≤ a) (a1 : a ≤ 18446744073709551615) (b : Int) (b0 : 0 ≤ b) (b1 : b ≤ 18446744073709551615) (c : Int) (c0 : 0 ≤ c) (c1 : c ≤ 18446744073709551615) (w : World) :
    Calls Try.prog 3 #[.int .u64 a, .int .u64 b, .int .u64 c] w fun e w' => e = .returned (.bool true) ∧ Below w.heap.size w w' := by
  go_enter Try.func3, Try.ntmps3
  go_wp2_with fail
  refine (sat_add _ _ a0 a1 b0 b1 _).mono ?_
  rintro e w' ⟨rfl, rfl⟩
  go_wp2_with fail
  refine (add_ref _ _ a0 a1 b0 b1 _).mono ?_
  rintro e w1 ⟨rfl, hb1⟩
  go_wp2_with fail
  refine (sat_sub _ _ a0 a1 b0 b1 _).mono ?_
  rintro e w' ⟨rfl, rfl⟩
  go_wp2_with fail
  refine (sub_ref _ _ a0 a1 b0 b1 _).mono ?_
  rintro e w' ⟨rfl, rfl⟩
  go_wp2_with fail
  refine (sat_mul _ _ a0 a1 b0 b1 _).mono ?_
  rintro e w' ⟨rfl, rfl⟩
  go_wp2_with fail
  refine (mul_ref _ _ a0 a1 b0 b1 _).mono ?_
  rintro e w2 ⟨rfl, hb2⟩
  go_wp2_with fail
  refine (sat_muladd _ _ _ a0 a1 b0 b1 c0 c1 _).mono ?_
  rintro e w' ⟨rfl, rfl⟩
  go_wp2_with fail
  refine (muladd_ref _ _ _ a0 a1 b0 b1 c0 c1 _).mono ?_
  rintro e w3 ⟨rfl, hb3⟩
  go_wp2_with fail
  refine (sat_shift _ _ a0 a1 (by omega) (by omega) _).mono ?_
  rintro e w' ⟨rfl, rfl⟩
  go_wp2_with fail
  refine (shift_ref _ _ a0 a1 (by omega) (by omega) _).mono ?_
  rintro e w4 ⟨rfl, hb4⟩
  go_wp2_with fail
  refine (sat_shift _ _ b0 b1 (wrap_lo a) (wrap_hi a) _).mono ?_
  rintro e w' ⟨rfl, rfl⟩
  go_wp2_with fail
  refine (shift_ref _ _ b0 b1 (wrap_lo a) (wrap_hi a) _).mono ?_
  rintro e w5 ⟨rfl, hb5⟩
  go_wp2_with fail
  refine (lives1 _).mono ?_
  rintro e w6 ⟨rfl, hb6⟩
  go_wp2
  go_ret
  exact ⟨rfl, Below.go (Below.go (Below.go (Below.go (Below.go hb1 hb2) hb3) hb4) hb5) hb6⟩

set_option maxHeartbeats 1000000 in
theorem walk_satDivides (a : Int) (a0 : 0 ≤ a) (a1 : a ≤ 18446744073709551615) (b : Int) (b0 : 0 ≤ b) (b1 : b ≤ 18446744073709551615) (c : Int) (c0 : 0 ≤ c) (c1 : c ≤ 18446744073709551615) (w : World) :
    Calls Try.prog 5 #[.int .u64 a, .int .u64 b, .int .u64 c] w fun e w' => e = .returned (.bool true) ∧ Below w.heap.size w w' := by
  go_enter Try.func5, Try.ntmps5
  go_wp2_with fail
  refine (sat_muldiv _ _ _ a0 a1 b0 b1 c0 c1 _).mono ?_
  rintro e w' ⟨n, rfl, rfl⟩
  go_wp2_with fail
  refine (muldiv_ref _ _ _ a0 a1 b0 b1 c0 c1 _).mono ?_
  rintro e w1 ⟨rfl, hb1⟩
  go_wp2_with fail
  refine (sat_divup _ _ a0 a1 b0 b1 _).mono ?_
  rintro e w' ⟨rfl, rfl⟩
  go_wp2_with fail
  refine (divup_ref _ _ a0 a1 b0 b1 _).mono ?_
  rintro e w2 ⟨rfl, hb2⟩
  go_wp2_with fail
  refine (lives1 _).mono ?_
  rintro e w3 ⟨rfl, hb3⟩
  go_wp2
  go_ret
  exact ⟨rfl, Below.go (Below.go (Below.go (below_drewN n (Below.refl _ _)) hb1) hb2) hb3⟩


set_option maxHeartbeats 1000000 in
theorem walk_satRises (a : Int) (a0 : 0 ≤ a) (a1 : a ≤ 18446744073709551615) (b : Int) (b0 : 0 ≤ b) (b1 : b ≤ 18446744073709551615) (c : Int) (c0 : 0 ≤ c) (c1 : c ≤ 18446744073709551615) (d : Int) (d0 : 0 ≤ d) (d1 : d ≤ 18446744073709551615) (w : World) :
    Calls Try.prog 8 #[.agg #[.int .u64 a, .int .u64 b, .int .u64 c, .int .u64 d]] w fun e w' => e = .returned (.bool true) ∧ Below w.heap.size w w' := by
  obtain ⟨x, hx⟩ : ∃ x, cap (a + c % 9223372036854775808) = x := ⟨_, rfl⟩
  obtain ⟨y, hy⟩ : ∃ y, cap (b + d % 9223372036854775808) = y := ⟨_, rfl⟩
  have x0 : a ≤ x ∧ x ≤ 18446744073709551615 := by rw [← hx]; unfold cap; split <;> omega
  have y0 : b ≤ y ∧ y ≤ 18446744073709551615 := by rw [← hy]; unfold cap; split <;> omega
  obtain ⟨x0, x1⟩ := x0; obtain ⟨y0, y1⟩ := y0
  have HX := Lib.hid hx; have HY := Lib.hid hy; clear hx hy
  have hm : a * b ≤ x * y := Int.mul_le_mul x0 y0 b0 (by omega)
  have hm2 : b * d ≤ y * d := Int.mul_le_mul_of_nonneg_right y0 d0
  have l1 : cap (a + b) ≤ cap (x + y) := cap_mono (by omega)
  have l2 : cap (a * b) ≤ cap (x * y) := cap_mono hm
  have l3 : cap (a + b * d) ≤ cap (x + y * d) := cap_mono (by omega)
  clear hm hm2
  go_enter Try.func8, Try.ntmps8
  go_wp2
  go_quiet (fail)
  go_wp2_with fail
  refine (sat_add _ _ (by omega) (by omega) (by omega) (by omega) _).mono ?_
  rintro e w' ⟨rfl, rfl⟩
  rw [HX.out]
  go_wp2_with fail
  refine (sat_add _ _ (by omega) (by omega) (by omega) (by omega) _).mono ?_
  rintro e w' ⟨rfl, rfl⟩
  rw [HY.out]
  go_wp2_with (first
    | (go_at_call 13; refine (sat_add _ _ (by omega) (by omega) (by omega) (by omega) _).mono ?_; rintro e w' ⟨rfl, rfl⟩)
    | (go_at_call 15; refine (sat_sub _ _ (by omega) (by omega) (by omega) (by omega) _).mono ?_; rintro e w' ⟨rfl, rfl⟩)
    | (go_at_call 17; refine (sat_mul _ _ (by omega) (by omega) (by omega) (by omega) _).mono ?_; rintro e w' ⟨rfl, rfl⟩)
    | (go_at_call 19; refine (sat_muladd _ _ _ (by omega) (by omega) (by omega) (by omega) (by omega) (by omega) _).mono ?_; rintro e w' ⟨rfl, rfl⟩)
    | (go_at_call 28; refine (sat_divup _ _ (by omega) (by omega) (by omega) (by omega) _).mono ?_; rintro e w' ⟨rfl, rfl⟩)
    | (go_at_call 26; refine (sat_muldiv _ _ _ (by omega) (by omega) (by omega) (by omega) (by omega) (by omega) _).mono ?_; rintro e w' ⟨n, rfl, rfl⟩)
    | (go_at_call 23; refine (lives1 _).mono ?_; rintro e w' ⟨rfl, hl⟩))
  go_ret
  refine ⟨rfl, Below.go (a := _) (below_drewN nq ((Below.refl _ _).alloc (Nat.le_refl _) _)) hl⟩

theorem back1 {a b : Int} (h0 : 0 ≤ a) (g0 : 0 ≤ b) (h : cap (a + b) < 18446744073709551615) : sub0 (cap (a + b)) b = a ∧ sub0 (cap (a + b)) a = b := by
  have e : cap (a + b) = a + b := by unfold cap at *; split at h <;> split <;> omega
  rw [e]; unfold sub0
  constructor <;> (rw [if_neg (by omega)]; omega)
theorem back3 {a b : Int} (h0 : 0 ≤ a) (h1 : a ≤ 18446744073709551615) (g0 : 0 < b) : mdiv a b b = a := by
  unfold mdiv
  rw [if_neg (by omega), Int.mul_ediv_cancel _ (by omega)]
  exact cap_of h1
theorem back2 {a b : Int} (h0 : 0 ≤ a) (h1 : a ≤ 18446744073709551615) (g0 : 0 < b) (h : cap (a * b) < 18446744073709551615) : up (cap (a * b)) b = a ∧ mdiv (cap (a * b)) 1 b = a := by
  have e : cap (a * b) = a * b := by unfold cap at *; split at h <;> split <;> omega
  rw [e]
  constructor
  · unfold up
    by_cases ha : a = 0
    · subst ha; simp
    · have hp : 0 < a * b := Int.mul_pos (by omega) g0
      rw [if_neg (by omega), if_neg (by omega)]
      have : a * b - 1 = (b - 1) + b * (a - 1) := by rw [Int.mul_sub, Int.mul_comm b a]; omega
      rw [this, Int.add_mul_ediv_left _ _ (by omega), Int.ediv_eq_zero_of_lt (by omega) (by omega)]
      omega
  · unfold mdiv
    rw [if_neg (by omega), Int.mul_one, Int.mul_ediv_cancel _ (by omega)]
    exact cap_of h1
theorem back4 {a b : Int} (h0 : 0 ≤ a) (g0 : 0 ≤ b) : 0 ≤ sub0 a b ∧ a ≤ sub0 a b + b ∧ (sub0 a b + b ≤ a ∨ sub0 a b + b ≤ b) := by
  unfold sub0; split <;> omega

set_option maxHeartbeats 2000000 in
theorem walk_satBack (a : Int) (a0 : 0 ≤ a) (a1 : a ≤ 18446744073709551615) (b : Int) (b0 : 0 ≤ b) (b1 : b ≤ 18446744073709551615) (w : World) :
    Calls Try.prog 7 #[.int .u64 a, .int .u64 b] w fun e w' => e = .returned (.bool true) ∧ Below w.heap.size w w' := by
  obtain ⟨m0, m1⟩ := wd_mul a b a0 a1 b0 b1
  obtain ⟨s0, s1⟩ : 0 ≤ cap (a + b) ∧ cap (a + b) ≤ 18446744073709551615 := cap_wd (by omega)
  obtain ⟨p0, p1⟩ : 0 ≤ cap (a * b) ∧ cap (a * b) ≤ 18446744073709551615 := cap_wd m0
  obtain ⟨u0, u1, u2⟩ := back4 a0 b0
  have u3 : sub0 a b + b ≤ 18446744073709551615 := by omega
  clear u2 m0 m1
  by_cases hs : cap (a + b) < 18446744073709551615
  · obtain ⟨e1, e2⟩ := back1 a0 b0 hs
    by_cases hb : b = 0
    · have gb : (b == 0) = true := by simp [hb]
      have hb' : b ≤ 0 := by omega
      clear hb
      go_enter Try.func7, Try.ntmps7
      go_wp2_with (first
          | (go_at_call 13; refine (sat_add _ _ (by omega) (by omega) (by omega) (by omega) _).mono ?_; rintro e w' ⟨rfl, rfl⟩)
          | (go_at_call 15; refine (sat_sub _ _ (by omega) (by omega) (by omega) (by omega) _).mono ?_; rintro e w' ⟨rfl, rfl⟩)
          | (go_at_call 17; refine (sat_mul _ _ (by omega) (by omega) (by omega) (by omega) _).mono ?_; rintro e w' ⟨rfl, rfl⟩)
          | (go_at_call 19; refine (sat_muladd _ _ _ (by omega) (by omega) (by omega) (by omega) (by omega) (by omega) _).mono ?_; rintro e w' ⟨rfl, rfl⟩)
          | (go_at_call 28; refine (sat_divup _ _ (by omega) (by omega) (by omega) (by omega) _).mono ?_; rintro e w' ⟨rfl, rfl⟩)
          | (go_at_call 26; refine (sat_muldiv _ _ _ (by omega) (by omega) (by omega) (by omega) (by omega) (by omega) _).mono ?_; rintro e w' ⟨n, rfl, rfl⟩)
          | (go_at_call 23; refine (lives1 _).mono ?_; rintro e w' ⟨rfl, hl⟩))
      go_ret
      exact ⟨rfl, by first | exact hl | exact Below.go (below_drewN _ (Below.refl _ _)) hl⟩
    · have hb' : 0 < b := by omega
      have gb : (b == 0) = false := by simp [hb]
      have e3 := back3 a0 a1 hb'
      clear hb
      by_cases hp : cap (a * b) < 18446744073709551615
      · obtain ⟨e4, e5⟩ := back2 a0 a1 hb' hp
        go_enter Try.func7, Try.ntmps7
        go_wp2_with (first
            | (go_at_call 13; refine (sat_add _ _ (by omega) (by omega) (by omega) (by omega) _).mono ?_; rintro e w' ⟨rfl, rfl⟩)
            | (go_at_call 15; refine (sat_sub _ _ (by omega) (by omega) (by omega) (by omega) _).mono ?_; rintro e w' ⟨rfl, rfl⟩)
            | (go_at_call 17; refine (sat_mul _ _ (by omega) (by omega) (by omega) (by omega) _).mono ?_; rintro e w' ⟨rfl, rfl⟩)
            | (go_at_call 19; refine (sat_muladd _ _ _ (by omega) (by omega) (by omega) (by omega) (by omega) (by omega) _).mono ?_; rintro e w' ⟨rfl, rfl⟩)
            | (go_at_call 28; refine (sat_divup _ _ (by omega) (by omega) (by omega) (by omega) _).mono ?_; rintro e w' ⟨rfl, rfl⟩)
            | (go_at_call 26; refine (sat_muldiv _ _ _ (by omega) (by omega) (by omega) (by omega) (by omega) (by omega) _).mono ?_; rintro e w' ⟨n, rfl, rfl⟩)
            | (go_at_call 23; refine (lives1 _).mono ?_; rintro e w' ⟨rfl, hl⟩))
        go_ret
        exact ⟨rfl, by first | exact hl | exact Below.go (below_drewN _ (Below.refl _ _)) hl⟩
      · rw [Int.not_lt] at hp
        go_enter Try.func7, Try.ntmps7
        go_wp2_with (first
            | (go_at_call 13; refine (sat_add _ _ (by omega) (by omega) (by omega) (by omega) _).mono ?_; rintro e w' ⟨rfl, rfl⟩)
            | (go_at_call 15; refine (sat_sub _ _ (by omega) (by omega) (by omega) (by omega) _).mono ?_; rintro e w' ⟨rfl, rfl⟩)
            | (go_at_call 17; refine (sat_mul _ _ (by omega) (by omega) (by omega) (by omega) _).mono ?_; rintro e w' ⟨rfl, rfl⟩)
            | (go_at_call 19; refine (sat_muladd _ _ _ (by omega) (by omega) (by omega) (by omega) (by omega) (by omega) _).mono ?_; rintro e w' ⟨rfl, rfl⟩)
            | (go_at_call 28; refine (sat_divup _ _ (by omega) (by omega) (by omega) (by omega) _).mono ?_; rintro e w' ⟨rfl, rfl⟩)
            | (go_at_call 26; refine (sat_muldiv _ _ _ (by omega) (by omega) (by omega) (by omega) (by omega) (by omega) _).mono ?_; rintro e w' ⟨n, rfl, rfl⟩)
            | (go_at_call 23; refine (lives1 _).mono ?_; rintro e w' ⟨rfl, hl⟩))
        go_ret
        exact ⟨rfl, by first | exact hl | exact Below.go (below_drewN _ (Below.refl _ _)) hl⟩
  · rw [Int.not_lt] at hs
    by_cases hb : b = 0
    · have gb : (b == 0) = true := by simp [hb]
      have hb' : b ≤ 0 := by omega
      clear hb
      go_enter Try.func7, Try.ntmps7
      go_wp2_with (first
          | (go_at_call 13; refine (sat_add _ _ (by omega) (by omega) (by omega) (by omega) _).mono ?_; rintro e w' ⟨rfl, rfl⟩)
          | (go_at_call 15; refine (sat_sub _ _ (by omega) (by omega) (by omega) (by omega) _).mono ?_; rintro e w' ⟨rfl, rfl⟩)
          | (go_at_call 17; refine (sat_mul _ _ (by omega) (by omega) (by omega) (by omega) _).mono ?_; rintro e w' ⟨rfl, rfl⟩)
          | (go_at_call 19; refine (sat_muladd _ _ _ (by omega) (by omega) (by omega) (by omega) (by omega) (by omega) _).mono ?_; rintro e w' ⟨rfl, rfl⟩)
          | (go_at_call 28; refine (sat_divup _ _ (by omega) (by omega) (by omega) (by omega) _).mono ?_; rintro e w' ⟨rfl, rfl⟩)
          | (go_at_call 26; refine (sat_muldiv _ _ _ (by omega) (by omega) (by omega) (by omega) (by omega) (by omega) _).mono ?_; rintro e w' ⟨n, rfl, rfl⟩)
          | (go_at_call 23; refine (lives1 _).mono ?_; rintro e w' ⟨rfl, hl⟩))
      go_ret
      exact ⟨rfl, by first | exact hl | exact Below.go (below_drewN _ (Below.refl _ _)) hl⟩
    · have hb' : 0 < b := by omega
      have gb : (b == 0) = false := by simp [hb]
      have e3 := back3 a0 a1 hb'
      clear hb
      by_cases hp : cap (a * b) < 18446744073709551615
      · obtain ⟨e4, e5⟩ := back2 a0 a1 hb' hp
        go_enter Try.func7, Try.ntmps7
        go_wp2_with (first
            | (go_at_call 13; refine (sat_add _ _ (by omega) (by omega) (by omega) (by omega) _).mono ?_; rintro e w' ⟨rfl, rfl⟩)
            | (go_at_call 15; refine (sat_sub _ _ (by omega) (by omega) (by omega) (by omega) _).mono ?_; rintro e w' ⟨rfl, rfl⟩)
            | (go_at_call 17; refine (sat_mul _ _ (by omega) (by omega) (by omega) (by omega) _).mono ?_; rintro e w' ⟨rfl, rfl⟩)
            | (go_at_call 19; refine (sat_muladd _ _ _ (by omega) (by omega) (by omega) (by omega) (by omega) (by omega) _).mono ?_; rintro e w' ⟨rfl, rfl⟩)
            | (go_at_call 28; refine (sat_divup _ _ (by omega) (by omega) (by omega) (by omega) _).mono ?_; rintro e w' ⟨rfl, rfl⟩)
            | (go_at_call 26; refine (sat_muldiv _ _ _ (by omega) (by omega) (by omega) (by omega) (by omega) (by omega) _).mono ?_; rintro e w' ⟨n, rfl, rfl⟩)
            | (go_at_call 23; refine (lives1 _).mono ?_; rintro e w' ⟨rfl, hl⟩))
        go_ret
        exact ⟨rfl, by first | exact hl | exact Below.go (below_drewN _ (Below.refl _ _)) hl⟩
      · rw [Int.not_lt] at hp
        go_enter Try.func7, Try.ntmps7
        go_wp2_with (first
            | (go_at_call 13; refine (sat_add _ _ (by omega) (by omega) (by omega) (by omega) _).mono ?_; rintro e w' ⟨rfl, rfl⟩)
            | (go_at_call 15; refine (sat_sub _ _ (by omega) (by omega) (by omega) (by omega) _).mono ?_; rintro e w' ⟨rfl, rfl⟩)
            | (go_at_call 17; refine (sat_mul _ _ (by omega) (by omega) (by omega) (by omega) _).mono ?_; rintro e w' ⟨rfl, rfl⟩)
            | (go_at_call 19; refine (sat_muladd _ _ _ (by omega) (by omega) (by omega) (by omega) (by omega) (by omega) _).mono ?_; rintro e w' ⟨rfl, rfl⟩)
            | (go_at_call 28; refine (sat_divup _ _ (by omega) (by omega) (by omega) (by omega) _).mono ?_; rintro e w' ⟨rfl, rfl⟩)
            | (go_at_call 26; refine (sat_muldiv _ _ _ (by omega) (by omega) (by omega) (by omega) (by omega) (by omega) _).mono ?_; rintro e w' ⟨n, rfl, rfl⟩)
            | (go_at_call 23; refine (lives1 _).mono ?_; rintro e w' ⟨rfl, hl⟩))
        go_ret
        exact ⟨rfl, by first | exact hl | exact Below.go (below_drewN _ (Below.refl _ _)) hl⟩

theorem flip {P : Program} {f : FuncId} {args : Array Value} {w : World} {x : Ending} (h : Calls P f args w fun e w' => e = x ∧ w = w') : Calls P f args w fun e w' => e = x ∧ w' = w := h.mono fun _ _ ⟨a, b⟩ => ⟨a, b.symm⟩

/-- Are two wide numbers alike, digit by digit? -/
def weq (a0 a1 a2 a3 b0 b1 b2 b3 : Int) : Bool := a0 == b0 && (a1 == b1 && (a2 == b2 && a3 == b3))
theorem weq_eq {a0 a1 a2 a3 m b0 b1 b2 b3 n : Int} (ha : Wide a0 a1 a2 a3 m) (hb : Wide b0 b1 b2 b3 n) : weq a0 a1 a2 a3 b0 b1 b2 b3 = decide (m = n) := by
  obtain ⟨⟨_, _⟩, ⟨_, _⟩, ⟨_, _⟩, ⟨_, _⟩, hm⟩ := ha
  obtain ⟨⟨_, _⟩, ⟨_, _⟩, ⟨_, _⟩, ⟨_, _⟩, hn⟩ := hb
  unfold weq
  by_cases h : m = n
  · have e0 : a0 = b0 := by omega
    have e1 : a1 = b1 := by omega
    have e2 : a2 = b2 := by omega
    have e3 : a3 = b3 := by omega
    simp [h, e0, e1, e2, e3]
  · rw [decide_eq_false h]
    by_cases e0 : a0 = b0
    · by_cases e1 : a1 = b1
      · by_cases e2 : a2 = b2
        · by_cases e3 : a3 = b3
          · exfalso; omega
          · simp [e3]
        · simp [e2]
      · simp [e1]
    · simp [e0]
theorem eq_arr (d : Nat) (a0 a1 a2 a3 b0 b1 b2 b3 : Int) (w : World) : (Op.equalIn (d + 1 + 1) 32 (.agg #[.int .u64 a0, .int .u64 a1, .int .u64 a2, .int .u64 a3]) (.agg #[.int .u64 b0, .int .u64 b1, .int .u64 b2, .int .u64 b3])).run Try.prog w = .ok (weq a0 a1 a2 a3 b0 b1 b2 b3) w := by
  have u3 := Try.underlying22
  have a3' := Try.isAgg22
  have z3 := Try.sizeOf22
  rw [Op.equalIn]
  simp only [Sem.run_bind, run_underlying Try.underlying32, Result.andThen_ok]
  simp only [Std.Legacy.Range.forIn_eq_forIn_range', Std.Legacy.Range.size, Nat.sub_zero, Nat.add_sub_cancel, Nat.div_one, List.range'_succ, List.range'_zero, List.forIn_cons, List.forIn_nil]
  go_simp
  unfold weq
  by_cases h1 : a0 = b0 <;> by_cases h2 : a1 = b1 <;> by_cases h3 : a2 = b2 <;> by_cases h4 : a3 = b3 <;> simp [h1, h2, h3, h4]
theorem eq_arr9 (a0 a1 a2 a3 b0 b1 b2 b3 : Int) (w : World) : (Op.equalIn 9999 32 (.agg #[.int .u64 a0, .int .u64 a1, .int .u64 a2, .int .u64 a3]) (.agg #[.int .u64 b0, .int .u64 b1, .int .u64 b2, .int .u64 b3])).run Try.prog w = .ok (weq a0 a1 a2 a3 b0 b1 b2 b3) w := eq_arr 9997 a0 a1 a2 a3 b0 b1 b2 b3 w
theorem ite_ok (b : Bool) (w : World) : (if b = false then Result.ok false w else Result.ok true w) = Result.ok b w := by cases b <;> rfl
attribute [local go_sem] eq_arr9 ite_ok

set_option maxHeartbeats 1000000 in
theorem walk_satUnder (a : Int) (a0 : 0 ≤ a) (a1 : a ≤ 18446744073709551615) (b : Int) (b0 : 0 ≤ b) (b1 : b ≤ 18446744073709551615) (c : Int) (c0 : 0 ≤ c) (c1 : c ≤ 18446744073709551615) (d : Int) (d0 : 0 ≤ d) (d1 : d ≤ 18446744073709551615) (w : World) :
    Calls Try.prog 6 #[.agg #[.int .u64 a, .int .u64 b, .int .u64 c, .int .u64 d]] w fun e w' => e = .returned (.bool true) ∧ Below w.heap.size w w' := by
  have hm : Try.prog.eqGuardType Try.prog.depth 35 = false := by kernel_rfl
  have S0 : Hid (∀ v, Below (w.alloc (.cells #[.int .u64 a, .int .u64 b, .int .u64 c, .int .u64 d] 32)).heap.size (w.alloc (.cells #[.int .u64 a, .int .u64 b, .int .u64 c, .int .u64 d] 32)) v →
      v.cell? ⟨w.heap.size, 0, none⟩ = some (.int .u64 a) ∧ v.cell? ⟨w.heap.size, 1, none⟩ = some (.int .u64 b) ∧ v.cell? ⟨w.heap.size, 2, none⟩ = some (.int .u64 c) ∧ v.cell? ⟨w.heap.size, 3, none⟩ = some (.int .u64 d)) := Lib.hid fun v hv => by
    refine ⟨(hv.cell (p := ⟨w.heap.size, 0, none⟩) (by simp)).trans ?_, (hv.cell (p := ⟨w.heap.size, 1, none⟩) (by simp)).trans ?_, (hv.cell (p := ⟨w.heap.size, 2, none⟩) (by simp)).trans ?_, (hv.cell (p := ⟨w.heap.size, 3, none⟩) (by simp)).trans ?_⟩ <;> simp [go_sem]
  go_enter Try.func6, Try.ntmps6
  go_wp2
  go_quiet ((go_at_call 30; exact Calls.quiet_of_same (flip (sat_under _ _ _ _ (by omega) (by omega) (by omega) (by omega) (by omega) (by omega) (by omega) (by omega) _))))
  go_wp2
  go_region_held3 (fun v => v.cell? ⟨w.heap.size, 0, none⟩ = some (.int .u64 a) ∧ v.cell? ⟨w.heap.size, 1, none⟩ = some (.int .u64 b) ∧ v.cell? ⟨w.heap.size, 2, none⟩ = some (.int .u64 c) ∧ v.cell? ⟨w.heap.size, 3, none⟩ = some (.int .u64 d))
    ((first | exact S0.out _ (((below_drewN _ (Below.refl _ _)).drew.trans h1).trans (h2.mono h1.size)) | exact S0.out _ ((below_drewN _ (Below.refl _ _)).drew.trans h1) | exact S0.out _ (below_drewN _ (Below.refl _ _)).drew))
    (first
      | (go_at_call_of 31 (Value.int .u64 a); refine (times_any _ _ (by omega) (by omega) (by omega) (by omega) _).mono ?_; rintro e w2 ⟨u0, u1, u2, u3, rfl, hu, h1⟩)
      | (go_at_call_of 31 (Value.int .u64 c); refine (times_any _ _ (by omega) (by omega) (by omega) (by omega) _).mono ?_; rintro e w3 ⟨z0, z1, z2, z3, rfl, hz, h2⟩))
  have hw := weq_eq hu hz
  rcases Int.lt_trichotomy (a * b) (c * d) with h | h | h
  · have g1 : decide (c * d < a * b) = false := decide_eq_false (by omega)
    rw [decide_eq_false (by omega)] at hw
    go_wp2_with (first
      | (go_at_call 32; refine (under_ref _ _ _ _ (by omega) (by omega) (by omega) (by omega) (by omega) (by omega) (by omega) (by omega) _).mono ?_; rintro e w4 ⟨rfl, h4⟩)
      | (go_at_call 23; refine (lives1 _).mono ?_; rintro e w5 ⟨rfl, h5⟩))
    go_ret
    exact ⟨rfl, Below.go (Below.go (Below.go (Below.go (below_drewN _ ((Below.refl _ _).alloc (Nat.le_refl _) _)).drew h1) h2) h4) h5⟩
  · have g1 : decide (c * d < a * b) = false := decide_eq_false (by omega)
    have g2 : decide (a * b < c * d) = false := decide_eq_false (by omega)
    rw [decide_eq_true h] at hw
    have H := Lib.hid h; clear h
    go_wp2_with (first
      | (go_at_call 32; refine (under_ref _ _ _ _ (by omega) (by omega) (by omega) (by omega) (by omega) (by omega) (by omega) (by omega) _).mono ?_; rintro e w4 ⟨rfl, h4⟩)
      | (go_at_call 23; refine (lives1 _).mono ?_; rintro e w5 ⟨rfl, h5⟩))
    go_ret
    exact ⟨rfl, Below.go (Below.go (Below.go (Below.go (below_drewN _ ((Below.refl _ _).alloc (Nat.le_refl _) _)).drew h1) h2) h4) h5⟩
  · have g1 : decide (a * b < c * d) = false := decide_eq_false (by omega)
    rw [decide_eq_false (by omega)] at hw
    go_wp2_with (first
      | (go_at_call 32; refine (under_ref _ _ _ _ (by omega) (by omega) (by omega) (by omega) (by omega) (by omega) (by omega) (by omega) _).mono ?_; rintro e w4 ⟨rfl, h4⟩)
      | (go_at_call 23; refine (lives1 _).mono ?_; rintro e w5 ⟨rfl, h5⟩))
    go_ret
    exact ⟨rfl, Below.go (Below.go (Below.go (Below.go (below_drewN _ ((Below.refl _ _).alloc (Nat.le_refl _) _)).drew h1) h2) h4) h5⟩
end Go.Proofs.Ytbgpjdbmjdlpkaa
