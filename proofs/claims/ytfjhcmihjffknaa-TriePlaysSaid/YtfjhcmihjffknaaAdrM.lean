/-
  Layer 31: prefixes over plain numbers: which are right, what they have, and that of two right ones one covers the other or no number is had by both; masks, bit by bit. Plain laws on numbers, no condition.
-/
import Derived.Test.YtfjhcmihjffknaaBase
import Derived.Laws.BitsLemmas
namespace Go.Proofs.Ytfjhcmihjffknaa
set_option linter.unusedVariables false
set_option linter.unusedSimpArgs false
open Go.ChangeShapes Go.WideShapes Go.ChangeAt Go.RowKit

/-- How much the bits behind a prefix's are worth. -/
def pw (n : Int) : Nat := 2 ^ (32 - n).toNat
def RtP (a n : Int) : Prop := (0 ≤ n ∧ n ≤ 32) ∧ a % (pw n : Int) = 0
def HsP (a n x : Int) : Prop := RtP a n ∧ a / (pw n : Int) = x / (pw n : Int)
def CvP (a n b m : Int) : Prop := RtP b m ∧ n ≤ m ∧ HsP a n b
instance (a n : Int) : Decidable (RtP a n) := by unfold RtP; exact inferInstance
instance (a n x : Int) : Decidable (HsP a n x) := by unfold HsP; exact inferInstance
instance (a n b m : Int) : Decidable (CvP a n b m) := by unfold CvP; exact inferInstance
theorem pw_pos (n : Int) : 0 < (pw n : Int) := by
  have : 0 < pw n := Nat.two_pow_pos _
  omega
theorem pw_le (n : Int) (h : 0 ≤ n) : (pw n : Int) ≤ 4294967296 := by
  have : pw n ≤ 2 ^ 32 := Nat.pow_le_pow_right (by decide) (by omega)
  have e : (2 : Nat) ^ 32 = 4294967296 := by decide
  omega
/-- A longer prefix leaves less. -/
theorem pw_mul {n m : Int} (h0 : 0 ≤ n) (h : n ≤ m) (h1 : m ≤ 32) : (pw n : Int) = (pw m : Int) * ((2 ^ (m - n).toNat : Nat) : Int) := by
  unfold pw
  rw [← Int.natCast_mul, ← Nat.pow_add, show (32 - m).toNat + (m - n).toNat = (32 - n).toNat by omega]
theorem pw_div {n m x : Int} (h0 : 0 ≤ n) (h : n ≤ m) (h1 : m ≤ 32) : x / (pw n : Int) = x / (pw m : Int) / ((2 ^ (m - n).toNat : Nat) : Int) := by
  rw [pw_mul h0 h h1, Int.ediv_ediv_of_nonneg (Int.le_of_lt (pw_pos m))]
theorem cover_one {a n b m x : Int} (hp : RtP a n) (hq : RtP b m) (h : n ≤ m) (h1 : a / (pw n : Int) = x / (pw n : Int)) (h2 : b / (pw m : Int) = x / (pw m : Int)) : CvP a n b m :=
  ⟨hq, h, hp, by rw [pw_div hp.1.1 h hq.1.2 (x := b), h2, ← pw_div hp.1.1 h hq.1.2, h1]⟩
theorem cover_or {a n b m x : Int} (h1 : HsP a n x) (h2 : HsP b m x) : CvP a n b m ∨ CvP b m a n := by
  rcases Int.le_total n m with h | h
  · exact Or.inl (cover_one h1.1 h2.1 h h1.2 h2.2)
  · exact Or.inr (cover_one h2.1 h1.1 h h2.2 h1.2)
theorem has_more {a n b m x : Int} (hc : CvP a n b m) (h : HsP b m x) : HsP a n x :=
  ⟨hc.2.2.1, by rw [hc.2.2.2, pw_div hc.2.2.1.1.1 hc.2.1 hc.1.1.2, h.2, ← pw_div hc.2.2.1.1.1 hc.2.1 hc.1.1.2]⟩
theorem has_low {a n : Int} (h : RtP a n) : HsP a n a := ⟨h, rfl⟩
theorem mul_of_mod {a p : Int} (h : a % p = 0) : a = p * (a / p) := by
  have := Int.mul_ediv_add_emod a p
  omega
theorem has_high {a n : Int} (h : RtP a n) : HsP a n (a + ((pw n : Int) - 1)) := by
  refine ⟨h, ?_⟩
  have p := pw_pos n
  have e := mul_of_mod h.2
  generalize (pw n : Int) = q at *
  generalize hj : a / q = j at *
  rw [e, Int.mul_add_ediv_left _ _ (by omega), Int.ediv_eq_zero_of_lt (by omega) (by omega), Int.add_zero]
theorem high_le {a n : Int} (h : RtP a n) (a0 : 0 ≤ a) (a1 : a ≤ 4294967295) : a + ((pw n : Int) - 1) ≤ 4294967295 := by
  have p := pw_pos n
  have e := mul_of_mod h.2
  have t : (4294967296 : Int) = (pw n : Int) * ((2 ^ n.toNat : Nat) : Int) := by
    unfold pw
    rw [← Int.natCast_mul, ← Nat.pow_add, show (32 - n).toNat + n.toNat = 32 by have := h.1; omega]
    rfl
  generalize (pw n : Int) = q at *
  generalize a / q = j at *
  generalize ((2 ^ n.toNat : Nat) : Int) = u at *
  have hj : j < u := by
    by_cases c : j < u
    · exact c
    · exfalso
      have := Int.mul_le_mul_of_nonneg_left (show u ≤ j by omega) (show 0 ≤ q by omega)
      omega
  have := Int.mul_le_mul_of_nonneg_left (show j + 1 ≤ u by omega) (show 0 ≤ q by omega)
  rw [Int.mul_add, Int.mul_one] at this
  omega
/-- A prefix's mask. -/
def mk31 (n : Int) : Int := 4294967296 - (pw (max 0 (min n 32)) : Int)
theorem mk31_at {n : Int} (h : 0 ≤ n ∧ n ≤ 32) : mk31 n = 4294967296 - (pw n : Int) := by
  unfold mk31
  rw [show max 0 (min n 32) = n by omega]
theorem mk31_bd (n : Int) : 0 ≤ mk31 n ∧ mk31 n ≤ 4294967295 := by
  have h1 := pw_pos (max 0 (min n 32)); have h2 := pw_le (max 0 (min n 32)) (by omega)
  unfold mk31; omega
theorem wrap_small (x : Int) (h0 : 0 ≤ x) (h1 : x ≤ 4294967295) : IntKind.u32.wrap x = x := by rw [IntKind.wrap_u32]; omega
theorem shl_mask (k : Nat) (hk : k ≤ 32) : IntKind.u32.wrap (4294967295 * 2 ^ k) = 4294967296 - ((2 ^ k : Nat) : Int) := by
  have h : 2 ^ k ≤ 2 ^ 32 := Nat.pow_le_pow_right (by decide) hk
  have h0 : 0 < 2 ^ k := Nat.two_pow_pos _
  have e : (2 : Nat) ^ 32 = 4294967296 := by decide
  have c : (2 : Int) ^ k = ((2 ^ k : Nat) : Int) := by simp
  rw [IntKind.wrap_u32, c]
  generalize 2 ^ k = p at *
  omega
theorem andNot_mask (k : Nat) (hk : k ≤ 32) (a : Int) (a0 : 0 ≤ a) (a1 : a ≤ 4294967295) : bits .andNot .u32 a (4294967296 - ((2 ^ k : Nat) : Int)) = a % ((2 ^ k : Nat) : Int) := by
  obtain ⟨x, rfl⟩ := Int.eq_ofNat_of_zero_le a0
  have h : 2 ^ k ≤ 2 ^ 32 := Nat.pow_le_pow_right (by decide) hk
  have h0 : 0 < 2 ^ k := Nat.two_pow_pos _
  have e : (2 : Nat) ^ 32 = 4294967296 := by decide
  have hm : (4294967296 : Int) - ((2 ^ k : Nat) : Int) = ((4294967296 - 2 ^ k : Nat) : Int) := by omega
  rw [hm]
  show IntKind.u32.wrap ((BitVec.ofInt 32 (x : Int) &&& ~~~ BitVec.ofInt 32 ((4294967296 - 2 ^ k : Nat) : Int)).toNat) = _
  rw [BitVec.ofInt_natCast, BitVec.ofInt_natCast, BitVec.toNat_and, BitVec.toNat_not, BitVec.toNat_ofNat, BitVec.toNat_ofNat]
  have e1 : x % 2 ^ 32 = x := Nat.mod_eq_of_lt (by omega)
  have e2 : 2 ^ 32 - 1 - (4294967296 - 2 ^ k) % 2 ^ 32 = 2 ^ k - 1 := by
    rw [Nat.mod_eq_of_lt (by omega)]; omega
  rw [e1, e2, Nat.and_two_pow_sub_one_eq_mod]
  have l : x % 2 ^ k ≤ x := Nat.mod_le _ _
  rw [wrap_small _ (by omega) (by omega)]
  exact Int.natCast_emod x (2 ^ k)
theorem and_mask (k : Nat) (hk : k ≤ 32) (a : Int) (a0 : 0 ≤ a) (a1 : a ≤ 4294967295) : bits .and .u32 a (4294967296 - ((2 ^ k : Nat) : Int)) = a / ((2 ^ k : Nat) : Int) * ((2 ^ k : Nat) : Int) := by
  obtain ⟨x, rfl⟩ := Int.eq_ofNat_of_zero_le a0
  have h : 2 ^ k ≤ 2 ^ 32 := Nat.pow_le_pow_right (by decide) hk
  have h0 : 0 < 2 ^ k := Nat.two_pow_pos _
  have e : (2 : Nat) ^ 32 = 4294967296 := by decide
  have hm : (4294967296 : Int) - ((2 ^ k : Nat) : Int) = ((4294967296 - 2 ^ k : Nat) : Int) := by omega
  have hx : x < 2 ^ 32 := by omega
  rw [hm, (bits_nat .u32 32 (by decide) (fun n h0 h1 => by rw [IntKind.wrap_u32]; omega) x _ hx (by omega)).1]
  have hmm : 4294967296 - 2 ^ k = (2 ^ (32 - k) - 1) * 2 ^ k := by
    rw [Nat.sub_mul, Nat.one_mul, ← Nat.pow_add, show 32 - k + k = 32 by omega]
  have key : x &&& (4294967296 - 2 ^ k) = x / 2 ^ k * 2 ^ k := by
    rw [hmm]
    apply Nat.eq_of_testBit_eq
    intro i
    rw [Nat.testBit_and, Nat.testBit_mul_two_pow, Nat.testBit_mul_two_pow, Nat.testBit_two_pow_sub_one, Nat.testBit_div_two_pow]
    by_cases hi : k ≤ i
    · rw [decide_eq_true hi, show i - k + k = i by omega, Bool.true_and, Bool.true_and]
      by_cases h32 : i - k < 32 - k
      · rw [decide_eq_true h32, Bool.and_true]
      · have : x.testBit i = false := Nat.testBit_lt_two_pow (Nat.lt_of_lt_of_le hx (Nat.pow_le_pow_right (by decide) (by omega)))
        rw [this, Bool.false_and]
    · rw [decide_eq_false hi]; simp
  rw [key]
  simp
end Go.Proofs.Ytfjhcmihjffknaa
