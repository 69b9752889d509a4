/-
  The plain arithmetic of layer 2: the greatest root, the greatest logarithm, a mean that follows one number. No Go in it.
-/
import Derived.Test.YtdokllignldbeaaRef1c
import Derived.Lib.ItoaNum
namespace Go.Proofs.Ytdokllignldbeaa
set_option linter.unusedVariables false
set_option linter.unusedSimpArgs false
open Go.RowKit

/-- The greatest number whose square is not above n. -/
def isqN : Nat → Nat
  | 0 => 0
  | n + 1 => if (isqN n + 1) * (isqN n + 1) ≤ n + 1 then isqN n + 1 else isqN n
theorem isqN_spec (n : Nat) : isqN n * isqN n ≤ n ∧ n < (isqN n + 1) * (isqN n + 1) := by
  induction n with
  | zero => exact ⟨Nat.le_refl _, by decide⟩
  | succ n ih =>
    obtain ⟨h1, h2⟩ := ih
    unfold isqN
    split
    · rename_i h
      refine ⟨h, ?_⟩
      generalize isqN n = s at *
      have : (s + 1 + 1) * (s + 1 + 1) = (s + 1) * (s + 1) + 2 * s + 3 := by simp only [Nat.add_mul, Nat.mul_add]; omega
      omega
    · rename_i h
      exact ⟨by omega, by omega⟩
def isq (n : Int) : Int := isqN n.toNat
theorem isq_nonneg (n : Int) : 0 ≤ isq n := Int.natCast_nonneg _
theorem isq_le (n : Int) (h : 0 ≤ n) : isq n * isq n ≤ n := by
  have := (isqN_spec n.toNat).1
  unfold isq
  have h2 : ((isqN n.toNat * isqN n.toNat : Nat) : Int) ≤ (n.toNat : Int) := by omega
  rw [Int.natCast_mul] at h2
  omega
theorem isq_lt (n : Int) (h : 0 ≤ n) : n < (isq n + 1) * (isq n + 1) := by
  have := (isqN_spec n.toNat).2
  unfold isq
  have h2 : (n.toNat : Int) < (((isqN n.toNat + 1) * (isqN n.toNat + 1) : Nat) : Int) := by omega
  rw [Int.natCast_mul] at h2
  simp only [Int.natCast_add, Int.cast_ofNat_Int] at h2
  omega
theorem sq_mono {a b : Int} (h0 : 0 ≤ a) (h : a ≤ b) : a * a ≤ b * b := Int.mul_le_mul h h h0 (by omega)
theorem le_isq {m n : Int} (hn : 0 ≤ n) (hm : 0 ≤ m) : m ≤ isq n ↔ m * m ≤ n := by
  constructor
  · intro h
    have := sq_mono hm h
    have := isq_le n hn
    omega
  · intro h
    by_cases hc : m ≤ isq n
    · exact hc
    · exfalso
      have h1 := sq_mono (by have := isq_nonneg n; omega) (show isq n + 1 ≤ m by omega)
      have := isq_lt n hn
      omega
theorem isq_of {n s : Int} (hs : 0 ≤ s) (h1 : s * s ≤ n) (h2 : n < (s + 1) * (s + 1)) : isq n = s := by
  have hn : 0 ≤ n := by have := Int.mul_nonneg hs hs; omega
  have a := (le_isq hn hs).2 h1
  have b : ¬ s + 1 ≤ isq n := fun h => by have := (le_isq hn (by omega)).1 h; omega
  omega
theorem isq_mono {m n : Int} (hm : 0 ≤ m) (h : m ≤ n) : isq m ≤ isq n := by
  rw [le_isq (by omega) (isq_nonneg m)]
  have := isq_le m hm
  omega
theorem isq_hi (n : Int) (h0 : 0 ≤ n) (h1 : n ≤ 18446744073709551615) : isq n ≤ 4294967295 := by
  by_cases h : isq n ≤ 4294967295
  · exact h
  · have h2 := sq_mono (by decide) (show 4294967296 ≤ isq n by omega)
    have := isq_le n h0
    omega

/-- The greatest k for which 2^k is not above n; -1 for 0. -/
def ilog (n : Int) : Int := (Lib.bitLen n.toNat : Int) - 1
theorem ilog_zero : ilog 0 = -1 := by decide
theorem ilog_spec (n : Int) (h0 : 0 < n) (h1 : n ≤ 18446744073709551615) : ∃ k : Nat, ilog n = k ∧ k < 64 ∧ (2 : Int) ^ k ≤ n ∧ n < 2 ^ (k + 1) := by
  obtain ⟨n, rfl⟩ := Int.eq_ofNat_of_zero_le (Int.le_of_lt h0)
  obtain ⟨a, b, c⟩ := Lib.bitLenAux_bounds 64 n (by omega) (by omega)
  have d := Lib.bitLen_le n 64 (Nat.le_refl _) (by omega)
  have e : Lib.bitLen n = Lib.bitLenAux 64 n := rfl
  rw [← e] at a b c
  unfold ilog
  rw [Int.toNat_natCast]
  generalize Lib.bitLen n = l at *
  refine ⟨l - 1, by omega, by omega, by exact_mod_cast b, ?_⟩
  rw [show l - 1 + 1 = l from by omega]
  exact_mod_cast c
theorem pow2_lt_iff {j k : Nat} {n : Int} (h1 : (2 : Int) ^ k ≤ n) (h2 : n < 2 ^ (k + 1)) : (2 : Int) ^ j ≤ n ↔ j ≤ k := by
  constructor
  · intro h
    by_cases hc : j ≤ k
    · exact hc
    · have := pow2_le (show k + 1 ≤ j by omega); omega
  · intro h
    have := pow2_le h; omega
theorem shr_pos {j : Nat} {n : Int} (h : 0 ≤ n) : n / 2 ^ j ≠ 0 ↔ (2 : Int) ^ j ≤ n := by
  have hp := pow2_pos j
  constructor
  · intro h1
    by_cases hc : (2 : Int) ^ j ≤ n
    · exact hc
    · exact absurd (Int.ediv_eq_zero_of_lt h (by omega)) h1
  · intro h1
    have : 1 ≤ n / 2 ^ j := by rw [Int.le_ediv_iff_mul_le hp]; omega
    omega

/-- How far a mean is shifted. -/
def sl (slow : Int) : Nat := (min (max slow 0) 16).toNat

/-! A mean that follows one number. -/
def Six (P : Int) : Prop := P = 1 ∨ P = 2 ∨ P = 4 ∨ P = 8 ∨ P = 16 ∨ P = 32
def fol (P x m : Int) : Int := m - m / P + x
theorem fol_step {P x m : Int} (hP : Six P) (hx : 0 ≤ x) (hm : 0 ≤ m) (h : m / P ≤ x) :
    m ≤ fol P x m ∧ fol P x m / P ≤ x ∧ m / P ≤ fol P x m / P ∧ (0 < P * x - m → P * x - m ≤ 32 * (fol P x m - m)) ∧ (P * x - m ≤ 0 → fol P x m = m ∧ m / P = x) := by
  unfold fol
  rcases hP with rfl | rfl | rfl | rfl | rfl | rfl <;> refine ⟨by omega, by omega, by omega, by omega, by omega⟩
def iter (P x m : Int) : Nat → Int
  | 0 => m
  | n + 1 => fol P x (iter P x m n)
theorem iter_add (P x m : Int) (a b : Nat) : iter P x m (a + b) = iter P x (iter P x m a) b := by
  induction b with
  | zero => rfl
  | succ b ih => show fol P x (iter P x m (a + b)) = fol P x (iter P x (iter P x m a) b); rw [ih]
theorem iter_ok {P x m : Int} (hP : Six P) (hx : 0 ≤ x) (hm : 0 ≤ m) (h : m / P ≤ x) (n : Nat) : 0 ≤ iter P x m n ∧ iter P x m n / P ≤ x ∧ m ≤ iter P x m n := by
  induction n with
  | zero => exact ⟨hm, h, Int.le_refl _⟩
  | succ n ih =>
    obtain ⟨a, b, c⟩ := ih
    obtain ⟨d, e, _⟩ := fol_step hP hx a b
    exact ⟨by show 0 ≤ fol P x (iter P x m n); omega, e, by show m ≤ fol P x (iter P x m n); omega⟩
theorem iter_half {P x m K : Int} (hP : Six P) (hx : 0 ≤ x) (hm : 0 ≤ m) (h : m / P ≤ x) (hK : 0 ≤ K) (hg : P * x - m ≤ 64 * K) (n : Nat) :
    P * x - iter P x m n ≤ 32 * K ∨ P * x - iter P x m n + n * K ≤ 64 * K := by
  induction n with
  | zero => right; show P * x - m + (0 : Nat) * K ≤ 64 * K; simp; omega
  | succ n ih =>
    obtain ⟨a, b, _⟩ := iter_ok hP hx hm h n
    obtain ⟨c, _, _, d, _⟩ := fol_step hP hx a b
    have e : ((n + 1 : Nat) : Int) * K = n * K + K := by rw [Int.natCast_add, Int.add_mul]; simp
    rw [e]
    show P * x - fol P x (iter P x m n) ≤ 32 * K ∨ P * x - fol P x (iter P x m n) + (n * K + K) ≤ 64 * K
    generalize (n : Int) * K = nK at *
    generalize iter P x m n = y at *
    generalize fol P x y = z at *
    generalize P * x = px at *
    omega
theorem iter_32 {P x m K : Int} (hP : Six P) (hx : 0 ≤ x) (hm : 0 ≤ m) (h : m / P ≤ x) (hK : 0 ≤ K) (hg : P * x - m ≤ 64 * K) : P * x - iter P x m 32 ≤ 32 * K := by
  have := iter_half hP hx hm h hK hg 32
  omega
theorem iter_tail {P x m : Int} (hP : Six P) (hx : 0 ≤ x) (hm : 0 ≤ m) (h : m / P ≤ x) (n : Nat) (hg : P * x - m ≤ n) : P * x - iter P x m n ≤ 0 := by
  induction n generalizing m with
  | zero => show P * x - m ≤ 0; simpa using hg
  | succ n ih =>
    obtain ⟨c, d, _, e, _⟩ := fol_step hP hx hm h
    have : iter P x m (n + 1) = iter P x (fol P x m) n := by rw [Nat.add_comm, iter_add]; rfl
    rw [this]
    refine ih (by omega) d ?_
    generalize fol P x m = z at *
    generalize P * x = px at *
    omega
theorem iter_done {P x m : Int} (hP : Six P) (hx : 0 ≤ x) (hm : 0 ≤ m) (h : m / P ≤ x) (hg : P * x - m ≤ 0) (n : Nat) : iter P x m n = m := by
  induction n with
  | zero => rfl
  | succ n ih => show fol P x (iter P x m n) = m; rw [ih]; exact ((fol_step hP hx hm h).2.2.2.2 hg).1
theorem iter_fine {P x m : Int} (hP : Six P) (hx : 0 ≤ x) (hm : 0 ≤ m) (h : m / P ≤ x) (j : Nat) (hg : P * x - m ≤ 64 * 2 ^ j) : P * x - iter P x m (32 * j + 64) ≤ 0 := by
  induction j generalizing m with
  | zero => simpa using iter_tail hP hx hm h 64 (by simpa using hg)
  | succ j ih =>
    have h1 := iter_32 (K := 2 ^ (j + 1)) hP hx hm h (Int.le_of_lt (pow2_pos _)) hg
    obtain ⟨a, b, _⟩ := iter_ok hP hx hm h 32
    have e : 32 * (j + 1) + 64 = 32 + (32 * j + 64) := by omega
    rw [e, iter_add]
    refine ih a b ?_
    rw [pow2_succ] at h1
    omega
theorem iter_2400 {P x m : Int} (hP : Six P) (hx : 0 ≤ x) (hx1 : x ≤ 4294967295) (hm : 0 ≤ m) (h : m / P ≤ x) : iter P x m 2400 / P = x ∧ fol P x (iter P x m 2400) = iter P x m 2400 := by
  have h1 := iter_fine hP hx hm h 31 (by
    have : P * x ≤ 32 * 4294967295 := by
      rcases hP with rfl | rfl | rfl | rfl | rfl | rfl <;> omega
    have e : (2 : Int) ^ 31 = 2147483648 := by decide
    rw [e]
    omega)
  obtain ⟨a, b, _⟩ := iter_ok hP hx hm h (32 * 31 + 64)
  have e : iter P x m 2400 = iter P x (iter P x m (32 * 31 + 64)) 1344 := by rw [← iter_add]
  rw [e, iter_done hP hx a b h1]
  obtain ⟨_, _, _, _, f⟩ := fol_step hP hx a b
  exact ⟨(f h1).2, (f h1).1⟩
end Go.Proofs.Ytdokllignldbeaa
