/-
  What the calls of package root, and of the document's answer for layer 2, return, for any words. No condition but that the numbers are words.
-/
import Derived.Test.YtdokllignldbeaaRootMath
import Derived.Test.YtdokllignldbeaaSat2
namespace Go.Proofs.Ytdokllignldbeaa
set_option linter.unusedVariables false
set_option linter.unusedSimpArgs false
open Go.ChangeShapes Go.WideShapes Go.ChangeAt Go.RowKit
attribute [local go_sem] alloc_drewN setCell_drewN

/-- An 'or' with a bit that is not there yet is a sum. -/
theorem or_bit64 (q : Int) (k : Nat) (hk : k < 64) (h0 : 0 ≤ q) (h : q ≤ 18446744073709551615) : bits .or .u64 (hi q (k + 1)) (2 ^ k) = hi q (k + 1) + 2 ^ k := by
  obtain ⟨q, rfl⟩ := Int.eq_ofNat_of_zero_le h0
  obtain ⟨_, _, _, h3, _⟩ := hi_bit (q : Int) k hk h0 h
  have e : hi (q : Int) (k + 1) = ((q / 2 ^ (k + 1) * 2 ^ (k + 1) : Nat) : Int) := by unfold hi; push_cast; rfl
  rw [e] at h3 ⊢
  have h4 := or_apart (q / 2 ^ (k + 1)) (2 ^ k) (k + 1) (Nat.pow_lt_pow_right (by decide) (by omega)) (by
    have : ((q / 2 ^ (k + 1) * 2 ^ (k + 1) + 2 ^ k : Nat) : Int) ≤ 18446744073709551615 := by push_cast; push_cast at h3; exact h3
    omega)
  push_cast at h4 ⊢
  exact h4

theorem sqrt_any (n : Int) (h0 : 0 ≤ n) (h1 : n ≤ 18446744073709551615) (w : World) :
    Calls Try.prog 176 #[.int .u64 n] w fun e w' => e = .returned (.int .u64 (isq n)) ∧ w = w' := by
  have q0 := isq_nonneg n
  have q1 := isq_hi n h0 h1
  have key : ∀ m : Int, 0 ≤ m → (m ≤ isq n ↔ m * m ≤ n) := fun m hm => le_isq h0 hm
  generalize isq n = q at *
  have KEY := Lib.hid key; clear key
  go_enter Try.func176, Try.ntmps176
  go_wp2
  go_loop [3, 6] (fun v i => ∃ t : Nat, t ≤ 32 ∧ i = .int .i64 t ∧ v = .int .u64 (hi q (32 - t))) (fun _ i => (32 - intOf i).toNat)
  case atStart => exact ⟨0, by omega, rfl, by rw [hi_top q (32 - 0) q0 (by simp; omega)]⟩
  case round =>
    obtain ⟨t, ht, rfl, rfl⟩ := hrel
    by_cases hlt : t < 32
    · obtain ⟨k, hk⟩ : ∃ k, t + k = 31 := ⟨31 - t, by omega⟩
      have e : 32 - t = k + 1 := by omega
      rw [e]
      obtain ⟨b0, b1, b2, b3, b4, b5⟩ := hi_bit q k (by omega) q0 (by omega)
      have eo := or_bit64 q k (by omega) q0 (by omega)
      have hm := hi_room q (k + 1) 32 (by omega) q0 (by omega)
      rw [pow2_succ] at hm
      have hs : hi q (k + 1) + 2 ^ k ≤ 4294967295 := by omega
      clear hm e
      obtain ⟨m0, m1⟩ := dg_mul (hi q (k + 1) + 2 ^ k) (hi q (k + 1) + 2 ^ k) (by omega) hs (by omega) hs
      have kk := KEY.out (hi q (k + 1) + 2 ^ k) (by omega)
      have e1 : (31 - (t : Int)) = (k : Int) := by omega
      have HK := Lib.hid hk; clear hk
      by_cases h : hi q (k + 1) + 2 ^ k ≤ q
      · have B := Lib.hid (b4 h)
        have hsq := kk.1 h
        clear b4 b5 kk h
        go_wp2
        go_round
        case rel => exact ⟨t + 1, by omega, by go_num, by rw [show 32 - (t + 1) = k from by have := HK.out; omega, B.out]⟩
        case measure => simp [intOf]; omega
      · have B := Lib.hid (b5 h)
        have hsq : ¬ (hi q (k + 1) + 2 ^ k) * (hi q (k + 1) + 2 ^ k) ≤ n := fun x => h (kk.2 x)
        clear b4 b5 kk h
        go_wp2
        go_round
        case rel => exact ⟨t + 1, by omega, by go_num, by rw [show 32 - (t + 1) = k from by have := HK.out; omega, B.out]⟩
        case measure => simp [intOf]; omega
    · have e : 32 - t = 0 := by omega
      rw [e, hi_zero]
      clear e
      go_wp2
      go_ret
      exact ⟨rfl, rfl⟩
theorem sqrt_ref (n : Int) (h0 : 0 ≤ n) (h1 : n ≤ 18446744073709551615) (w : World) :
    Calls Try.prog 143 #[.int .u64 n] w fun e w' => e = .returned (.int .u64 (isq n)) ∧ Below w.heap.size w w' := by
  have q0 := isq_nonneg n
  have q1 := isq_hi n h0 h1
  have key : ∀ m : Int, 0 ≤ m → (decide (n < m * m) = !decide (m ≤ isq n)) := fun m hm => by
    have h := le_isq h0 hm
    by_cases hc : m ≤ isq n
    · rw [decide_eq_true hc, decide_eq_false (by have := h.1 hc; omega)]; rfl
    · rw [decide_eq_false hc, decide_eq_true (by have : ¬ m * m ≤ n := fun x => hc (h.2 x)
                                                 omega)]; rfl
  generalize isq n = q at *
  have KEY := Lib.hid key; clear key
  go_enter Try.func143, Try.ntmps143
  go_wp2
  go_loopw [3, 4] (fun v i wr => ∃ k : Nat, k ≤ 32 ∧ i = .int .i64 ((k : Int) - 1) ∧ v = .int .u64 (hi q k) ∧ Below w.heap.size w wr) (fun _ i _ => (1 + intOf i).toNat)
  case atStart => exact ⟨32, by omega, rfl, by rw [hi_top q 32 q0 (by omega)], Below.refl _ _⟩
  case round =>
    obtain ⟨k, hk, rfl, rfl, hr⟩ := hrel
    match k with
    | 0 =>
      rw [hi_zero]
      go_wp2
      go_ret
      exact ⟨rfl, hr⟩
    | k + 1 =>
      obtain ⟨b0, b1, b2, b3, b4, b5⟩ := hi_bit q k (by omega) q0 (by omega)
      have e : ((k + 1 : Nat) : Int) - 1 = k := by omega
      rw [e]
      clear e
      have kk := KEY.out (hi q (k + 1) + 2 ^ k) (by omega)
      by_cases h : hi q (k + 1) + 2 ^ k ≤ q
      · have B4 := Lib.hid (b4 h)
        have kk' : decide (n < (hi q (k + 1) + 2 ^ k) * (hi q (k + 1) + 2 ^ k)) = false := by rw [kk]; simp [h]
        clear b4 b5 kk h
        go_wp2_with fail
        refine (of_any _ (by omega) (by omega) _).mono ?_
        rintro e w3 ⟨x0, x1, o1, rfl, hx, rfl⟩
        go_wp2_with fail
        refine (times_any _ _ (by omega) (by omega) (by omega) (by omega) _).mono ?_
        rintro e w2 ⟨u0, u1, u2, u3, rfl, hu, hc⟩
        go_wp2_with fail
        refine (less_any _ _ _ _ _ _ _ _ _ _ hx hu _).mono ?_
        rintro e w3 ⟨rfl, hc2⟩
        go_wp2
        go_roundw
        case rel => exact ⟨k, by omega, rfl, by rw [B4.out], (((hr.alloc hr.size _).trans (hc.mono (by have := hr.size; simp; omega))).trans (hc2.mono (by have := hr.size; have := hc.size; simp at this; omega)))⟩
        case measure => simp [intOf]; omega
      · have B5 := Lib.hid (b5 h)
        have kk' : decide (n < (hi q (k + 1) + 2 ^ k) * (hi q (k + 1) + 2 ^ k)) = true := by rw [kk]; simp [h]
        clear b4 b5 kk h
        go_wp2_with fail
        refine (of_any _ (by omega) (by omega) _).mono ?_
        rintro e w3 ⟨x0, x1, o1, rfl, hx, rfl⟩
        go_wp2_with fail
        refine (times_any _ _ (by omega) (by omega) (by omega) (by omega) _).mono ?_
        rintro e w2 ⟨u0, u1, u2, u3, rfl, hu, hc⟩
        go_wp2_with fail
        refine (less_any _ _ _ _ _ _ _ _ _ _ hx hu _).mono ?_
        rintro e w3 ⟨rfl, hc2⟩
        go_wp2
        go_roundw
        case rel => exact ⟨k, by omega, rfl, by rw [B5.out], (((hr.alloc hr.size _).trans (hc.mono (by have := hr.size; simp; omega))).trans (hc2.mono (by have := hr.size; have := hc.size; simp at this; omega)))⟩
        case measure => simp [intOf]; omega
/-- An 'or' of small ints: the second one a bit that the first one lacks. -/
theorem or_small (q : Int) (k : Nat) (hk : k < 6) (h0 : 0 ≤ q) (h : q < 64) : bits .or .i64 (hi q (k + 1)) (2 ^ k) = hi q (k + 1) + 2 ^ k := by
  have : ∀ q : Fin 64, ∀ k : Fin 6, bits .or .i64 (hi (q.val : Int) (k.val + 1)) (2 ^ k.val) = hi (q.val : Int) (k.val + 1) + 2 ^ k.val := by decide +kernel
  have := this ⟨q.toNat, by omega⟩ ⟨k, hk⟩
  simp only [Int.toNat_of_nonneg h0] at this
  exact this

end Go.Proofs.Ytdokllignldbeaa
