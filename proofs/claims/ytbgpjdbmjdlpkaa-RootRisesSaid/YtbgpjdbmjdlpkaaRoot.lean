/-
  What the calls of package root, and of the document's answer for layer 2, return, for any words. No condition but that the numbers are words.
-/
import Derived.Test.YtbgpjdbmjdlpkaaRootMath
import Derived.Test.YtbgpjdbmjdlpkaaSat2
namespace Go.Proofs.Ytbgpjdbmjdlpkaa
set_option linter.unusedVariables false
set_option linter.unusedSimpArgs false
open Go.ChangeShapes Go.WideShapes Go.ChangeAt Go.RowKit
attribute [local go_sem] alloc_drewN setCell_drewN

/-- An 'or' with a bit that is not there yet is a sum. -/
theorem or_bit64 (q : Int) (k : Nat) (hk : k < 64) (h0 : 0 ≤ q) (h : q ≤ 18446744073709551615) : bits .or .u64 (hi q (k + 1)) (2 ^ k) = hi q (k + 1) + 2 ^ k := by
  obtain ⟨q, rfl⟩ := Int.eq_ofNat_of_zero_le h0
  obtain ⟨_, _, _, h3, _⟩ := hi_bit (q : Int) k hk h0 h
  have e : hi (q : Int) (k + 1) = ((q / 2 ^ (k + 1) * 2 ^ (k + 1) : Nat) : Int) := by unfold hi; push_cast; rfl
  rw [e] at h3 ⊢
  have h4 := or_apart (q / 2 ^ (k + 1)) (2 ^ k) (k + 1) (Nat.pow_lt_pow_right (by decide) (by omega)) (by
    have : ((q / 2 ^ (k + 1) * 2 ^ (k + 1) + 2 ^ k : Nat) : Int) ≤ 18446744073709551615 := by push_cast; push_cast at h3; exact h3
    omega)
  push_cast at h4 ⊢
  exact h4

theorem sqrt_any (n : Int) (h0 : 0 ≤ n) (h1 : n ≤ 18446744073709551615) (w : World) :
    Calls Try.prog 33 #[.int .u64 n] w fun e w' => e = .returned (.int .u64 (isq n)) ∧ w = w' := by
  have q0 := isq_nonneg n
  have q1 := isq_hi n h0 h1
  have key : ∀ m : Int, 0 ≤ m → (m ≤ isq n ↔ m * m ≤ n) := fun m hm => le_isq h0 hm
  generalize isq n = q at *
  have KEY := Lib.hid key; clear key
  go_enter Try.func33, Try.ntmps33
  go_wp2
  go_loop [3, 6] (fun v i => ∃ t : Nat, t ≤ 32 ∧ i = .int .i64 t ∧ v = .int .u64 (hi q (32 - t))) (fun _ i => (32 - intOf i).toNat)
  case atStart => exact ⟨0, by omega, rfl, by rw [hi_top q (32 - 0) q0 (by simp; omega)]⟩
  case round =>
    obtain ⟨t, ht, rfl, rfl⟩ := hrel
    by_cases hlt : t < 32
    · obtain ⟨k, hk⟩ : ∃ k, t + k = 31 := ⟨31 - t, by omega⟩
      have e : 32 - t = k + 1 := by omega
      rw [e]
      obtain ⟨b0, b1, b2, b3, b4, b5⟩ := hi_bit q k (by omega) q0 (by omega)
      have eo := or_bit64 q k (by omega) q0 (by omega)
      have hm := hi_room q (k + 1) 32 (by omega) q0 (by omega)
      rw [pow2_succ] at hm
      have hs : hi q (k + 1) + 2 ^ k ≤ 4294967295 := by omega
      clear hm e
      obtain ⟨m0, m1⟩ := dg_mul (hi q (k + 1) + 2 ^ k) (hi q (k + 1) + 2 ^ k) (by omega) hs (by omega) hs
      have kk := KEY.out (hi q (k + 1) + 2 ^ k) (by omega)
      have e1 : (31 - (t : Int)) = (k : Int) := by omega
      have HK := Lib.hid hk; clear hk
      by_cases h : hi q (k + 1) + 2 ^ k ≤ q
      · have B := Lib.hid (b4 h)
        have hsq := kk.1 h
        clear b4 b5 kk h
        go_wp2
        go_round
        case rel => exact ⟨t + 1, by omega, by go_num, by rw [show 32 - (t + 1) = k from by have := HK.out; omega, B.out]⟩
        case measure => simp [intOf]; omega
      · have B := Lib.hid (b5 h)
        have hsq : ¬ (hi q (k + 1) + 2 ^ k) * (hi q (k + 1) + 2 ^ k) ≤ n := fun x => h (kk.2 x)
        clear b4 b5 kk h
        go_wp2
        go_round
        case rel => exact ⟨t + 1, by omega, by go_num, by rw [show 32 - (t + 1) = k from by have := HK.out; omega, B.out]⟩
        case measure => simp [intOf]; omega
    · have e : 32 - t = 0 := by omega
      rw [e, hi_zero]
      clear e
      go_wp2
      go_ret
      exact ⟨rfl, rfl⟩

theorem sqrt_ref (n : Int) (h0 : 0 ≤ n) (h1 : n ≤ 18446744073709551615) (w : World) :
    Calls Try.prog 34 #[.int .u64 n] w fun e w' => e = .returned (.int .u64 (isq n)) ∧ Below w.heap.size w w' := by
  have q0 := isq_nonneg n
  have q1 := isq_hi n h0 h1
  have key : ∀ m : Int, 0 ≤ m → (decide (n < m * m) = !decide (m ≤ isq n)) := fun m hm => by
    have h := le_isq h0 hm
    by_cases hc : m ≤ isq n
    · rw [decide_eq_true hc, decide_eq_false (by have := h.1 hc; omega)]; rfl
    · rw [decide_eq_false hc, decide_eq_true (by have : ¬ m * m ≤ n := fun x => hc (h.2 x)
                                                 omega)]; rfl
  generalize isq n = q at *
  have KEY := Lib.hid key; clear key
  go_enter Try.func34, Try.ntmps34
  go_wp2
  go_loopw [3, 4] (fun v i wr => ∃ k : Nat, k ≤ 32 ∧ i = .int .i64 ((k : Int) - 1) ∧ v = .int .u64 (hi q k) ∧ Below w.heap.size w wr) (fun _ i _ => (1 + intOf i).toNat)
  case atStart => exact ⟨32, by omega, rfl, by rw [hi_top q 32 q0 (by omega)], Below.refl _ _⟩
  case round =>
    obtain ⟨k, hk, rfl, rfl, hr⟩ := hrel
    match k with
    | 0 =>
      rw [hi_zero]
      go_wp2
      go_ret
      exact ⟨rfl, hr⟩
    | k + 1 =>
      obtain ⟨b0, b1, b2, b3, b4, b5⟩ := hi_bit q k (by omega) q0 (by omega)
      have e : ((k + 1 : Nat) : Int) - 1 = k := by omega
      rw [e]
      clear e
      have kk := KEY.out (hi q (k + 1) + 2 ^ k) (by omega)
      by_cases h : hi q (k + 1) + 2 ^ k ≤ q
      · have B4 := Lib.hid (b4 h)
        have kk' : decide (n < (hi q (k + 1) + 2 ^ k) * (hi q (k + 1) + 2 ^ k)) = false := by rw [kk]; simp [h]
        clear b4 b5 kk h
        go_wp2_with fail
        refine (of_any _ (by omega) (by omega) _).mono ?_
        rintro e w3 ⟨x0, x1, o1, rfl, hx, rfl⟩
        go_wp2_with fail
        refine (times_any _ _ (by omega) (by omega) (by omega) (by omega) _).mono ?_
        rintro e w2 ⟨u0, u1, u2, u3, rfl, hu, hc⟩
        go_wp2_with fail
        refine (less_any _ _ _ _ _ _ _ _ _ _ hx hu _).mono ?_
        rintro e w3 ⟨rfl, hc2⟩
        go_wp2
        go_roundw
        case rel => exact ⟨k, by omega, rfl, by rw [B4.out], (((hr.alloc hr.size _).trans (hc.mono (by have := hr.size; simp; omega))).trans (hc2.mono (by have := hr.size; have := hc.size; simp at this; omega)))⟩
        case measure => simp [intOf]; omega
      · have B5 := Lib.hid (b5 h)
        have kk' : decide (n < (hi q (k + 1) + 2 ^ k) * (hi q (k + 1) + 2 ^ k)) = true := by rw [kk]; simp [h]
        clear b4 b5 kk h
        go_wp2_with fail
        refine (of_any _ (by omega) (by omega) _).mono ?_
        rintro e w3 ⟨x0, x1, o1, rfl, hx, rfl⟩
        go_wp2_with fail
        refine (times_any _ _ (by omega) (by omega) (by omega) (by omega) _).mono ?_
        rintro e w2 ⟨u0, u1, u2, u3, rfl, hu, hc⟩
        go_wp2_with fail
        refine (less_any _ _ _ _ _ _ _ _ _ _ hx hu _).mono ?_
        rintro e w3 ⟨rfl, hc2⟩
        go_wp2
        go_roundw
        case rel => exact ⟨k, by omega, rfl, by rw [B5.out], (((hr.alloc hr.size _).trans (hc.mono (by have := hr.size; simp; omega))).trans (hc2.mono (by have := hr.size; have := hc.size; simp at this; omega)))⟩
        case measure => simp [intOf]; omega

/-- An 'or' of small ints: the second one a bit that the first one lacks. -/
theorem or_small (q : Int) (k : Nat) (hk : k < 6) (h0 : 0 ≤ q) (h : q < 64) : bits .or .i64 (hi q (k + 1)) (2 ^ k) = hi q (k + 1) + 2 ^ k := by
  have : ∀ q : Fin 64, ∀ k : Fin 6, bits .or .i64 (hi (q.val : Int) (k.val + 1)) (2 ^ k.val) = hi (q.val : Int) (k.val + 1) + 2 ^ k.val := by decide +kernel
  have := this ⟨q.toNat, by omega⟩ ⟨k, hk⟩
  simp only [Int.toNat_of_nonneg h0] at this
  exact this

theorem log_any (n : Int) (h0 : 0 ≤ n) (h1 : n ≤ 18446744073709551615) (w : World) :
    Calls Try.prog 35 #[.int .u64 n] w fun e w' => e = .returned (.int .i64 (ilog n)) ∧ w = w' := by
  by_cases hn : n = 0
  · subst hn
    rw [ilog_zero]
    go_enter Try.func35, Try.ntmps35
    go_wp2
    go_ret
    exact ⟨rfl, rfl⟩
  obtain ⟨l, hl, l1, l2, l3⟩ := ilog_spec n (by omega) h1
  rw [hl]
  clear hl
  have g : (n == 0) = false := by simp [hn]
  clear hn
  have key : ∀ j : Nat, n / 2 ^ j ≠ 0 ↔ j ≤ l := fun j => (shr_pos h0).trans (pow2_lt_iff l2 l3)
  have KEY := Lib.hid key; clear key l2 l3
  go_enter Try.func35, Try.ntmps35
  go_wp2
  go_loop [3, 8] (fun v i => ∃ t : Nat, t ≤ 6 ∧ i = .int .i64 t ∧ v = .int .i64 (hi l (6 - t))) (fun _ i => (6 - intOf i).toNat)
  case atStart => exact ⟨0, by omega, rfl, by rw [hi_top l (6 - 0) (by omega) (by simp; omega)]⟩
  case round =>
    obtain ⟨t, ht, rfl, rfl⟩ := hrel
    by_cases hlt : t < 6
    · obtain ⟨k, hk⟩ : ∃ k, t + k = 5 := ⟨5 - t, by omega⟩
      have e : 6 - t = k + 1 := by omega
      rw [e]
      obtain ⟨b0, b1, b2, b3, b4, b5⟩ := hi_bit l k (by omega) (by omega) (by omega)
      have eo := or_small l k (by omega) (by omega) (by omega)
      have hm := hi_room l (k + 1) 6 (by omega) (by omega) (by omega)
      rw [pow2_succ] at hm
      have hs : hi l (k + 1) + 2 ^ k ≤ 63 := by omega
      have b2 : (2 : Int) ^ k ≤ 32 := pow2_le (k := 5) (by omega)
      clear hm e
      have e1 : (5 - (t : Int)) = (k : Int) := by omega
      have HK := Lib.hid hk; clear hk
      obtain ⟨m, hm⟩ := Int.eq_ofNat_of_zero_le (show 0 ≤ hi l (k + 1) + 2 ^ k by omega)
      have kk := KEY.out m
      rw [hm] at b4 b5 eo b3 hs
      by_cases h : m ≤ l
      · have B := Lib.hid (b4 (by omega))
        have hsq : (n / 2 ^ m != 0) = true := by simpa using kk.2 h
        clear b4 b5 kk h
        have HM := Lib.hid hm; clear hm
        go_wp2
        go_round
        case rel => exact ⟨t + 1, by omega, by go_num, by rw [show 6 - (t + 1) = k from by have := HK.out; omega, B.out]⟩
        case measure => simp [intOf]; omega
      · have B := Lib.hid (b5 (by omega))
        have hsq : (n / 2 ^ m != 0) = false := by
          have : ¬ n / 2 ^ m ≠ 0 := fun x => h (kk.1 x)
          simpa using this
        clear b4 b5 kk h
        have HM := Lib.hid hm; clear hm
        go_wp2
        go_round
        case rel => exact ⟨t + 1, by omega, by go_num, by rw [show 6 - (t + 1) = k from by have := HK.out; omega, B.out]⟩
        case measure => simp [intOf]; omega
    · have e : 6 - t = 0 := by omega
      rw [e, hi_zero]
      clear e
      go_wp2
      go_ret
      exact ⟨rfl, rfl⟩

theorem log_ref (n : Int) (h0 : 0 ≤ n) (h1 : n ≤ 18446744073709551615) (w : World) :
    Calls Try.prog 36 #[.int .u64 n] w fun e w' => e = .returned (.int .i64 (ilog n)) ∧ w = w' := by
  by_cases hn : n = 0
  · subst hn
    rw [ilog_zero]
    go_enter Try.func36, Try.ntmps36
    go_wp2
    refine wp_loop_rounds 1 ?_
    rw [rounds_succ]
    go_wp2
    go_ret
    exact ⟨rfl, rfl⟩
  obtain ⟨l, hl, l1, l2, l3⟩ := ilog_spec n (by omega) h1
  rw [hl]
  clear hl
  have hn : 0 < n := by omega
  have key : ∀ j : Nat, n / 2 ^ j ≠ 0 ↔ j ≤ l := fun j => (shr_pos h0).trans (pow2_lt_iff l2 l3)
  have step : ∀ j : Nat, n / 2 ^ j / 2 = n / 2 ^ (j + 1) ∧ 0 ≤ n / 2 ^ j ∧ n / 2 ^ j ≤ n := fun j => by
    refine ⟨?_, Int.ediv_nonneg h0 (Int.le_of_lt (pow2_pos j)), Int.ediv_le_self _ h0⟩
    rw [Int.ediv_ediv_of_nonneg (Int.le_of_lt (pow2_pos j)), ← Int.pow_succ]
  have KEY := Lib.hid key; have STEP := Lib.hid step; clear key step l2 l3
  go_enter Try.func36, Try.ntmps36
  go_wp2
  go_loop [0, 3] (fun v i => ∃ t : Nat, t ≤ l + 1 ∧ i = .int .i64 ((t : Int) - 1) ∧ v = .int .u64 (n / 2 ^ t)) (fun _ i => (64 - intOf i).toNat)
  case atStart => exact ⟨0, by omega, rfl, by simp⟩
  case round =>
    obtain ⟨t, ht, rfl, rfl⟩ := hrel
    obtain ⟨s1, s2, s3⟩ := STEP.out t
    have kk := KEY.out t
    by_cases hlt : t ≤ l
    · have hp : 0 < n / 2 ^ t := by have := kk.2 hlt; omega
      have S1 := Lib.hid s1; clear s1 kk
      generalize n / 2 ^ t = y at *
      go_wp2
      go_round
      case rel => exact ⟨t + 1, by omega, by go_num, by rw [← S1.out]⟩
      case measure => simp [intOf]; omega
    · have hz : n / 2 ^ t = 0 := by
        by_cases hc : n / 2 ^ t = 0
        · exact hc
        · exact absurd (kk.1 hc) hlt
      have e : (t : Int) - 1 = l := by omega
      rw [hz, e]
      clear kk s1 s2 s3 hz e
      go_wp2
      go_ret
      exact ⟨rfl, rfl⟩
end Go.Proofs.Ytbgpjdbmjdlpkaa
