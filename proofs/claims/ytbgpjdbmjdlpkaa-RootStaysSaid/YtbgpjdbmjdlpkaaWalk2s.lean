/-
  The law of a mean that stays, walked: true for any number of 32 bits, any shift, any steps. No condition.
-/
import Derived.Test.YtbgpjdbmjdlpkaaRoot2
import Derived.Outline
namespace Go.Proofs.Ytbgpjdbmjdlpkaa
set_option linter.unusedVariables false
set_option linter.unusedSimpArgs false
open Go.ChangeShapes Go.WideShapes Go.ChangeAt Go.RowKit

theorem six_of (k : Nat) (h : k ≤ 5) : Six (2 ^ k) := by
  unfold Six
  match k, h with
  | 0, _ => decide
  | 1, _ => decide
  | 2, _ => decide
  | 3, _ => decide
  | 4, _ => decide
  | 5, _ => decide
theorem sl_nat (k : Nat) (h : k ≤ 5) : sl (k : Int) = k := by unfold sl; omega
theorem fol_cap {P x m : Int} (hP : Six P) (x0 : 0 ≤ x) (x1 : x ≤ 4294967295) (hm : 0 ≤ m) (h : m / P ≤ x) : cap (m - m / P + x) = fol P x m ∧ m ≤ 1099511627776 := by
  unfold fol
  rcases hP with rfl | rfl | rfl | rfl | rfl | rfl <;> exact ⟨cap_of (by omega), by omega⟩

set_option maxHeartbeats 1000000 in
set_option maxRecDepth 20000 in
theorem stays_at (x : Int) (x0 : 0 ≤ x) (x1 : x ≤ 4294967295) (slow : Int) (s0 : 0 ≤ slow) (s1 : slow ≤ 255) (steps : Int) (t0 : 0 ≤ steps) (t1 : steps ≤ 65535) (k N : Nat) (hk : slow % 6 = k) (hN : steps % 1000 = N) (w : World) :
    Calls Try.prog 12 #[.int .u32 x, .int .u8 slow, .int .u16 steps] w fun e w' => e = .returned (.bool true) ∧ w = w' := by
  have k5 : k ≤ 5 := by omega
  have N1 : N ≤ 999 := by omega
  have six := six_of k k5
  have esl := sl_nat k k5
  have FO : ∀ m : Int, 0 ≤ m → m / 2 ^ k ≤ x → ∃ m', cap (m - m / 2 ^ sl (k : Int) + x) = m' ∧ m' = fol (2 ^ k) x m ∧ m ≤ 1099511627776 ∧ 0 ≤ m' ∧ m' ≤ 1099511627776 ∧ m' / 2 ^ k ≤ x ∧ m / 2 ^ k ≤ m' / 2 ^ k := by
    intro m h0 h1
    rw [esl]
    obtain ⟨a, b⟩ := fol_cap six x0 x1 h0 h1
    obtain ⟨c, d, e, _⟩ := fol_step six x0 h0 h1
    exact ⟨_, a, rfl, b, by omega, (fol_cap six x0 x1 (by omega) d).2, d, e⟩
  have FO := Lib.hid FO
  have ESL := Lib.hid esl
  have SIX := Lib.hid six
  clear esl six
  go_enter Try.func12, Try.ntmps12
  go_wp2
  rw [hk, hN]
  have HK := Lib.hid hk; have HN := Lib.hid hN
  clear hk hN
  go_loop [8, 9, 17] (fun v l i => ∃ (t : Nat) (m : Int), t ≤ N ∧ i = .int .i64 t ∧ v = .int .u64 m ∧ l = .int .u64 (m / 2 ^ k) ∧ 0 ≤ m ∧ m / 2 ^ k ≤ x) (fun _ _ i => (N - (intOf i).toNat))
  case atStart => exact ⟨0, 0, by omega, rfl, rfl, by simp, by omega, by simp; omega⟩
  case round =>
    obtain ⟨t, m, ht, rfl, rfl, rfl, m0, m1⟩ := hrel
    by_cases hlt : t < N
    · obtain ⟨m', e1, e2, b0, b1, b2, b3, b4⟩ := FO.out m m0 m1
      have E1 := Lib.hid e1; clear e1 e2
      obtain ⟨q0, q1⟩ := shr_bd k b1
      go_wp2_with fail
      refine (follow_any _ _ _ m0 (by omega) (by omega) (by omega) (by omega) (by omega) _).mono ?_
      rintro e w' ⟨rfl, rfl⟩
      rw [E1.out]
      go_wp2_with fail
      refine (mean_any _ _ b1 (by omega) (by omega) (by omega) _).mono ?_
      rintro e w' ⟨rfl, rfl⟩
      rw [ESL.out]
      go_wp2
      go_round
      case rel => exact ⟨t + 1, m', by omega, by go_num, rfl, rfl, b1, b3⟩
      case measure => simp [intOf]; omega
    · go_wp2
      go_loop [8, 38] (fun v i => ∃ t : Nat, t ≤ 2400 ∧ i = .int .i64 t ∧ v = .int .u64 (iter (2 ^ k) x m t)) (fun _ i => (2400 - (intOf i).toNat))
      case atStart => exact ⟨0, by omega, rfl, rfl⟩
      case round =>
        obtain ⟨t, ht, rfl, rfl⟩ := hrel
        obtain ⟨i0, i1, _⟩ := iter_ok SIX.out x0 m0 m1 t
        by_cases hlt : t < 2400
        · have es : iter (2 ^ k) x m (t + 1) = fol (2 ^ k) x (iter (2 ^ k) x m t) := rfl
          have ES := Lib.hid es; clear es
          generalize iter (2 ^ k) x m t = y at *
          obtain ⟨m', e1, e2, b0, b1, b2, b3, b4⟩ := FO.out y i0 i1
          have E1 := Lib.hid e1; have E2 := Lib.hid e2; clear e1 e2
          go_wp2_with fail
          refine (follow_any _ _ _ i0 (by omega) (by omega) (by omega) (by omega) (by omega) _).mono ?_
          rintro e w' ⟨rfl, rfl⟩
          rw [E1.out]
          go_wp2
          go_round
          case rel => exact ⟨t + 1, by omega, by go_num, by rw [ES.out, E2.out]⟩
          case measure => simp [intOf]; omega
        · obtain rfl : t = 2400 := by omega
          obtain ⟨d1, d2⟩ := iter_2400 SIX.out x0 x1 m0 m1
          generalize iter (2 ^ k) x m 2400 = y at *
          obtain ⟨m', e1, e2, b0, b1, b2, b3, b4⟩ := FO.out y i0 i1
          rw [d2] at e2
          subst e2
          have E1 := Lib.hid e1; have D1 := Lib.hid d1; clear e1 d1 d2
          go_wp2_with fail
          refine (mean_any _ _ i0 (by omega) (by omega) (by omega) _).mono ?_
          rintro e w' ⟨rfl, rfl⟩
          rw [ESL.out, D1.out]
          go_wp2_with fail
          refine (follow_any _ _ _ i0 (by omega) (by omega) (by omega) (by omega) (by omega) _).mono ?_
          rintro e w' ⟨rfl, rfl⟩
          rw [E1.out]
          go_wp2_with fail
          refine (mean_any _ _ i0 (by omega) (by omega) (by omega) _).mono ?_
          rintro e w' ⟨rfl, rfl⟩
          rw [ESL.out, D1.out]
          go_wp2_with fail
          refine (lives2 _).mono ?_
          rintro e w' ⟨rfl, rfl⟩
          go_wp2
          go_ret
          exact ⟨rfl, rfl⟩

theorem walk_rootStays (x : Int) (x0 : 0 ≤ x) (x1 : x ≤ 4294967295) (slow : Int) (s0 : 0 ≤ slow) (s1 : slow ≤ 255) (steps : Int) (t0 : 0 ≤ steps) (t1 : steps ≤ 65535) (w : World) :
    Calls Try.prog 12 #[.int .u32 x, .int .u8 slow, .int .u16 steps] w fun e w' => e = .returned (.bool true) ∧ Below w.heap.size w w' := by
  refine (stays_at x x0 x1 slow s0 s1 steps t0 t1 (slow % 6).toNat (steps % 1000).toNat (by omega) (by omega) w).mono ?_
  rintro e w' ⟨rfl, rfl⟩
  exact ⟨rfl, Below.refl _ _⟩
end Go.Proofs.Ytbgpjdbmjdlpkaa
