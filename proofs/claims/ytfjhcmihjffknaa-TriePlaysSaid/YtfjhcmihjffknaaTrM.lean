/-
  Prefixes and their bits: which bit follows a prefix; the longest prefix of two. Plain words on numbers. No condition.
-/
import Derived.Test.YtfjhcmihjffknaaTr9
import Derived.Lib.BitFns
namespace Go.Proofs.Ytfjhcmihjffknaa
set_option linter.unusedVariables false
set_option linter.unusedSimpArgs false
open Go.RowKit

theorem brn_def {n a : Int} (n0 : 0 ≤ n) (n1 : n ≤ 31) (a0 : 0 ≤ a) : brn n a = a / (pw (n + 1) : Int) % 2 := by
  obtain ⟨k, rfl⟩ : ∃ k : Nat, n = k := ⟨n.toNat, by omega⟩
  obtain ⟨x, rfl⟩ : ∃ x : Nat, a = x := ⟨a.toNat, by omega⟩
  unfold brn pw
  have hk : k ≤ 31 := by omega
  rw [Int.toNat_natCast, show (32 - ((k : Int) + 1)).toNat = 31 - k by omega]
  have e1 : (4294967296 : Nat) = 2 ^ (31 - k) * 2 * 2 ^ k := by
    rw [Nat.mul_assoc, Nat.mul_comm 2, ← Nat.mul_assoc, ← Nat.pow_add, show 31 - k + k = 31 by omega]
  have e2 : (2147483648 : Nat) = 2 ^ (31 - k) * 2 ^ k := by
    rw [← Nat.pow_add, show 31 - k + k = 31 by omega]
  have e3 : x * 2 ^ k % 4294967296 / 2147483648 = x / 2 ^ (31 - k) % 2 := by
    rw [e1, e2, Nat.mul_mod_mul_right, Nat.mul_div_mul_right _ _ (Nat.two_pow_pos k), Nat.mod_mul_right_div_self]
  have e4 := congrArg (fun z : Nat => (z : Int)) e3
  simpa using e4
theorem pw_step {k : Int} (k0 : 0 ≤ k) (k1 : k ≤ 31) : (pw k : Int) = (pw (k + 1) : Int) * 2 := by
  rw [pw_mul k0 (by omega : k ≤ k + 1) (by omega), show (k + 1 - k).toNat = 1 by omega]
  rfl
/-- An address that a longer prefix has, has its bits. -/
theorem brn_has {b m a k : Int} (h : HsP b m a) (b0 : 0 ≤ b) (a0 : 0 ≤ a) (k0 : 0 ≤ k) (hk : k < m) : brn k a = brn k b := by
  have hm := h.1.1.2
  rw [brn_def k0 (by omega) a0, brn_def k0 (by omega) b0, pw_div (by omega : 0 ≤ k + 1) (by omega : k + 1 ≤ m) hm, pw_div (by omega : 0 ≤ k + 1) (by omega : k + 1 ≤ m) hm (x := b), h.2]
/-- Alike so far, and in the next bit: alike one bit more. -/
theorem more_alike {a b k : Int} (a0 : 0 ≤ a) (b0 : 0 ≤ b) (k0 : 0 ≤ k) (k1 : k ≤ 31) (h : a / (pw k : Int) = b / (pw k : Int)) (hb : brn k a = brn k b) : a / (pw (k + 1) : Int) = b / (pw (k + 1) : Int) := by
  have p := pw_pos (k + 1)
  rw [brn_def k0 k1 a0, brn_def k0 k1 b0] at hb
  rw [pw_step k0 k1, ← Int.ediv_ediv_of_nonneg (Int.le_of_lt p), ← Int.ediv_ediv_of_nonneg (Int.le_of_lt p)] at h
  omega
theorem len_lt {x k : Nat} (hx : x < 2 ^ 64) (hk : k ≤ 64) : Lib.bitLen x ≤ k ↔ x < 2 ^ k := by
  constructor
  · intro h
    rcases Nat.lt_or_ge x (2 ^ k) with h1 | h1
    · exact h1
    · have e := Lib.bitLen_shift k x h1 hx
      have hq : x / 2 ^ k ≠ 0 := fun e0 => by
        have := Nat.div_eq_zero_iff.1 e0
        have := Nat.two_pow_pos k
        omega
      have hs : x / 2 ^ k < 2 ^ 64 := Nat.lt_of_le_of_lt (Nat.div_le_self _ _) hx
      rw [Lib.bitLen_half _ hq hs] at e
      omega
  · exact Lib.bitLen_le x k hk
theorem xor_zero35 (p q : Nat) : p = q ↔ p ^^^ q = 0 :=
  ⟨fun h => by rw [h, Nat.xor_self], fun h => by
    have e : p ^^^ q ^^^ q = 0 ^^^ q := by rw [h]
    rwa [Nat.xor_assoc, Nat.xor_self, Nat.xor_zero, Nat.zero_xor] at e⟩
/-- How many bits two addresses have alike, from the first one on. -/
def alike (a b : Int) : Int := 32 - (Lib.bitLen (a.toNat ^^^ b.toNat) : Int)
theorem alike_is {a b k : Int} (a0 : 0 ≤ a) (a1 : a ≤ 4294967295) (b0 : 0 ≤ b) (b1 : b ≤ 4294967295) (k0 : 0 ≤ k) (k1 : k ≤ 32) : a / (pw k : Int) = b / (pw k : Int) ↔ k ≤ alike a b := by
  obtain ⟨x, rfl⟩ : ∃ x : Nat, a = x := ⟨a.toNat, by omega⟩
  obtain ⟨y, rfl⟩ : ∃ y : Nat, b = y := ⟨b.toNat, by omega⟩
  obtain ⟨j, rfl⟩ : ∃ j : Nat, k = j := ⟨k.toNat, by omega⟩
  unfold alike pw
  rw [Int.toNat_natCast, Int.toNat_natCast, show (32 - (j : Int)).toNat = 32 - j by omega]
  have hx : x < 2 ^ 32 := by omega
  have hy : y < 2 ^ 32 := by omega
  have hxy : x ^^^ y < 2 ^ 32 := Nat.xor_lt_two_pow hx hy
  have h64 : x ^^^ y < 2 ^ 64 := Nat.lt_trans hxy (by decide)
  have c1 : ((x : Int) / ((2 ^ (32 - j) : Nat) : Int) = (y : Int) / ((2 ^ (32 - j) : Nat) : Int)) ↔ x / 2 ^ (32 - j) = y / 2 ^ (32 - j) := by
    rw [← Int.natCast_ediv, ← Int.natCast_ediv]
    exact Int.ofNat_inj
  have c2 : ((j : Int) ≤ 32 - (Lib.bitLen (x ^^^ y) : Int)) ↔ Lib.bitLen (x ^^^ y) ≤ 32 - j := by omega
  rw [c1, c2, len_lt h64 (by omega)]
  have c3 : (x ^^^ y) < 2 ^ (32 - j) ↔ (x ^^^ y) / 2 ^ (32 - j) = 0 := by
    have := Nat.two_pow_pos (32 - j)
    rw [Nat.div_eq_zero_iff]
    omega
  rw [c3, ← Nat.shiftRight_eq_div_pow, ← Nat.shiftRight_eq_div_pow, ← Nat.shiftRight_eq_div_pow, Nat.shiftRight_xor_distrib]
  exact xor_zero35 _ _
theorem alike_le (a b : Int) : alike a b ≤ 32 := by unfold alike; omega
theorem alike_nn {a b : Int} (a0 : 0 ≤ a) (a1 : a ≤ 4294967295) (b0 : 0 ≤ b) (b1 : b ≤ 4294967295) : 0 ≤ alike a b := by
  refine (alike_is a0 a1 b0 b1 (Int.le_refl 0) (by omega)).1 ?_
  have e : (pw 0 : Int) = 4294967296 := rfl
  rw [e]
  omega
/-- The longest prefix that covers two. -/
def comN (b m a n : Int) : Int := min (min m n) (alike b a)
def comA (b m a n : Int) : Int := b / (pw (comN b m a n) : Int) * (pw (comN b m a n) : Int)
theorem com_div (b m a n : Int) : comA b m a n / (pw (comN b m a n) : Int) = b / (pw (comN b m a n) : Int) := by
  unfold comA
  exact Int.mul_ediv_cancel _ (by have := pw_pos (comN b m a n); omega)
section
variable {b m a n : Int} (hb : 0 ≤ b ∧ b ≤ 4294967295) (ha : 0 ≤ a ∧ a ≤ 4294967295) (hp : RtP b m) (hq : RtP a n)
include hb ha hp hq
theorem com_at : (0 ≤ comN b m a n ∧ comN b m a n ≤ m ∧ comN b m a n ≤ n) ∧ b / (pw (comN b m a n) : Int) = a / (pw (comN b m a n) : Int) ∧ (comN b m a n = m ∨ comN b m a n = n ∨ brn (comN b m a n) b ≠ brn (comN b m a n) a) := by
  have h1 := alike_nn hb.1 hb.2 ha.1 ha.2
  have h2 := alike_le b a
  have hm := hp.1; have hn := hq.1
  obtain ⟨c, hc⟩ : ∃ c, comN b m a n = c := ⟨_, rfl⟩
  have hc' : min (min m n) (alike b a) = c := hc
  rw [hc]
  have g : 0 ≤ c ∧ c ≤ m ∧ c ≤ n ∧ c ≤ alike b a ∧ (c = m ∨ c = n ∨ c = alike b a) := by omega
  refine ⟨⟨g.1, g.2.1, g.2.2.1⟩, (alike_is hb.1 hb.2 ha.1 ha.2 g.1 (by omega)).2 g.2.2.2.1, ?_⟩
  by_cases e1 : c = m
  · exact Or.inl e1
  · by_cases e2 : c = n
    · exact Or.inr (Or.inl e2)
    · refine Or.inr (Or.inr (fun e => ?_))
      have e3 : c = alike b a := by omega
      have e4 := more_alike hb.1 ha.1 g.1 (by omega) ((alike_is hb.1 hb.2 ha.1 ha.2 g.1 (by omega)).2 g.2.2.2.1) e
      have e5 := (alike_is hb.1 hb.2 ha.1 ha.2 (by omega) (by omega)).1 e4
      omega
theorem com_right : RtP (comA b m a n) (comN b m a n) ∧ (0 ≤ comA b m a n ∧ comA b m a n ≤ b) := by
  obtain ⟨⟨g1, g2, g3⟩, -, -⟩ := com_at hb ha hp hq
  have hm := hp.1
  unfold comA
  have p := pw_pos (comN b m a n)
  generalize (comN b m a n) = c at *
  refine ⟨⟨⟨g1, by omega⟩, Int.mul_emod_left _ _⟩, Int.mul_nonneg (Int.ediv_nonneg hb.1 (Int.le_of_lt p)) (Int.le_of_lt p), ?_⟩
  have := Int.mul_ediv_add_emod b (pw c : Int)
  have := Int.emod_nonneg b (show (pw c : Int) ≠ 0 by omega)
  rw [Int.mul_comm]
  omega
theorem com_covers : CvP (comA b m a n) (comN b m a n) b m ∧ CvP (comA b m a n) (comN b m a n) a n := by
  obtain ⟨⟨g1, g2, g3⟩, g4, -⟩ := com_at hb ha hp hq
  have h := com_right hb ha hp hq
  have d := com_div b m a n
  exact ⟨⟨hp, g2, h.1, d⟩, ⟨hq, g3, h.1, d.trans g4⟩⟩
end
end Go.Proofs.Ytfjhcmihjffknaa
