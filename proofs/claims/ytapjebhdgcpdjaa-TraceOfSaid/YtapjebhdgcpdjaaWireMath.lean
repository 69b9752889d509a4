/-
  The bytes of fields of layer 4, over plain numbers and strings: how each kind stands, what is wrong with a field, what a string begins with; that what is put is taken as it was, and in no other way. No Go in it. No condition.
-/
import Derived.Test.YtapjebhdgcpdjaaOpen2
import Derived.Test.YtapjebhdgcpdjaaSum2
import Derived.Lib.BitFns
import Derived.Lib.ItoaNum
namespace Go.Proofs.Ytapjebhdgcpdjaa
set_option linter.unusedVariables false
set_option linter.unusedSimpArgs false
open Go.ChangeShapes Go.WideShapes Go.ChangeAt Go.RowKit

/-- A number's bytes, the highest first. -/
def hib (n : Int) : Nat → ByteArray
  | 0 => ⟨#[]⟩
  | w + 1 => hib (n / 256) w ++ chrs [n % 256]
/-- A number's bytes, as few as it takes; at most so many and one. -/
def fewN : Nat → Int → ByteArray
  | 0, n => chrs [n]
  | m + 1, n => if n < 128 then chrs [n] else chrs [128 + n % 128] ++ fewN m (n / 128)
/-- A word's bytes, as few as it takes. -/
def fw (n : Int) : ByteArray := fewN 9 n
/-- How many bytes a kind of a fixed size has. -/
def wk (k : Int) : Nat := if k = 1 then 1 else if k = 2 then 2 else if k = 3 then 4 else if k = 4 then 8 else 0
/-- What is wrong with a field; 0: nothing. -/
def er (f : Fd) : Int :=
  if f.k < 1 ∨ 6 < f.k then 6
  else if (f.k = 6 ∧ f.n ≠ 0) ∨ (f.k ≠ 6 ∧ f.s ≠ ⟨#[]⟩) then 6
  else if f.k ≤ 4 ∧ 256 ^ wk f.k ≤ f.n then 5
  else if 65535 < f.s.size then 4 else 0
/-- A field's bytes. -/
def enc (f : Fd) : ByteArray := if f.k = 6 then fw f.s.size ++ f.s else if f.k = 5 then fw f.n else hib f.n (wk f.k)
/-- The bytes of a field that is right; none of another one. -/
def en (f : Fd) : ByteArray := if er f = 0 then enc f else ⟨#[]⟩

theorem chrs_size (l : List Int) : (chrs l).size = l.length := by
  show (l.map fun n => UInt8.ofNat n.toNat).toArray.size = _
  simp
theorem chrs_bt (x : Int) (h0 : 0 ≤ x) (h1 : x ≤ 255) : bt (chrs [x]) (0 : Nat) = x := by
  rw [bt_nat]; exact byte_of x h0 h1
theorem hib_size : ∀ (w : Nat) (n : Int), (hib n w).size = w
  | 0, _ => rfl
  | w + 1, n => by
    show (hib (n / 256) w ++ chrs [n % 256]).size = w + 1
    rw [ByteArray.size_append, hib_size, chrs_size]; rfl
theorem fewN_pos : ∀ (m : Nat) (n : Int), 1 ≤ (fewN m n).size ∧ (fewN m n).size ≤ m + 1
  | 0, n => by show 1 ≤ (chrs [n]).size ∧ (chrs [n]).size ≤ 1; rw [chrs_size]; simp
  | m + 1, n => by
    unfold fewN
    split
    · rw [chrs_size]; simp
    · have := fewN_pos m (n / 128)
      rw [ByteArray.size_append, chrs_size]; simp; omega
theorem fw_size (n : Int) : 1 ≤ (fw n).size ∧ (fw n).size ≤ 10 := fewN_pos 9 n
/-- How many bytes a number has, by its bits. -/
theorem fewN_bits : ∀ (m : Nat) (n : Nat), n < 18446744073709551616 → n < 128 ^ (m + 1) → ((fewN m (n : Int)).size : Int) = max 1 (((Lib.bitLen n : Int) + 7 - 1) / 7)
  | 0, n, h, h1 => by
    have hb := Lib.bitLen_le n 7 (by omega) (by omega)
    show ((chrs [(n : Int)]).size : Int) = _
    rw [chrs_size]
    show (1 : Int) = _
    omega
  | m + 1, n, h, h1 => by
    unfold fewN
    by_cases hn : n < 128
    · have hb := Lib.bitLen_le n 7 (by omega) (by omega)
      rw [if_pos (by omega), chrs_size]
      show (1 : Int) = _
      omega
    · have hs := Lib.bitLen_shift 7 n (by omega) (by omega)
      have e : (n : Int) / 128 = ((n / 128 : Nat) : Int) := by omega
      have hl : n / 128 < 128 ^ (m + 1) := by
        rw [Nat.pow_succ] at h1
        exact Nat.div_lt_of_lt_mul (by rw [Nat.mul_comm]; exact h1)
      have ih := fewN_bits m (n / 128) (by omega) hl
      rw [if_neg (by omega), e, ByteArray.size_append, chrs_size]
      have e2 : n / 2 ^ 7 = n / 128 := rfl
      rw [e2] at hs
      have hp := fewN_pos m ((n / 128 : Nat) : Int)
      have hq : Lib.bitLen (n / 128) ≠ 0 ∨ n / 128 = 0 := by
        by_cases hz : n / 128 = 0
        · exact Or.inr hz
        · left
          have := Lib.bitLen_half (n / 128) hz (by omega)
          omega
      show ((1 + (fewN m ((n / 128 : Nat) : Int)).size : Nat) : Int) = _
      have hq2 : 1 ≤ Lib.bitLen (n / 128) := by omega
      omega
theorem fw_bits (n : Int) (h0 : 0 ≤ n) (h1 : n ≤ 18446744073709551615) : ((fw n).size : Int) = max 1 (((Lib.bitLen n.toNat : Int) + 7 - 1) / 7) := by
  have e : n = (n.toNat : Int) := by omega
  have := fewN_bits 9 n.toNat (by omega) (by omega)
  rw [← e] at this
  exact this

/-- Bits and bytes: no more bits than so many bytes have. -/
theorem bits_bytes (n : Int) (w : Nat) (hw : w ≤ 8) (h0 : 0 ≤ n) (h1 : n ≤ 18446744073709551615) : (8 * (w : Int) < (Lib.bitLen n.toNat : Int)) ↔ 256 ^ w ≤ n := by
  have e : (256 : Int) ^ w = ((2 ^ (8 * w) : Nat) : Int) := by
    rw [show (2 : Nat) ^ (8 * w) = 256 ^ w from Nat.pow_mul 2 8 w]; exact (Int.natCast_pow 256 w).symm
  rw [e]
  constructor
  · intro h
    have hz : n.toNat ≠ 0 := by
      intro hz
      rw [hz] at h
      have : Lib.bitLen 0 = 0 := by decide
      omega
    have := (Lib.bitLenAux_bounds 64 n.toNat (by omega) hz).2.1
    have h2 : 2 ^ (8 * w) ≤ 2 ^ (Lib.bitLen n.toNat - 1) := Nat.pow_le_pow_right (by decide) (by omega)
    have h3 : 2 ^ (Lib.bitLen n.toNat - 1) ≤ n.toNat := this
    omega
  · intro h
    apply Classical.byContradiction
    intro hn
    have hz : n.toNat ≠ 0 := by
      have := Nat.pow_pos (n := 8 * w) (show 0 < 2 by decide)
      omega
    have := (Lib.bitLenAux_bounds 64 n.toNat (by omega) hz).2.2
    have h2 : 2 ^ Lib.bitLen n.toNat ≤ 2 ^ (8 * w) := Nat.pow_le_pow_right (by decide) (by omega)
    have h3 : n.toNat < 2 ^ Lib.bitLen n.toNat := this
    omega

/-- The number that stands in the lower seven bits of the first bytes. -/
def vl (s : ByteArray) : Nat → Int
  | 0 => 0
  | i + 1 => vl s i + bt s i % 128 * 128 ^ i
/-- What a string begins with: a number in as few bytes as it takes: the number, how many, what is wrong. From a place on, at most so many. -/
def svN (s : ByteArray) : Nat → Nat → Int × Nat × Int
  | 0, _ => (0, 0, 2)
  | m + 1, i => if s.size ≤ i then (0, 0, 2) else if (0 < i ∧ bt s i = 0) ∨ (i = 9 ∧ 1 < bt s i) then (0, 0, 3) else if bt s i < 128 then (vl s (i + 1), i + 1, 0) else svN s m (i + 1)
def sv (s : ByteArray) : Int × Nat × Int := svN s 10 0
/-- The number of the first bytes, the highest first. -/
def be (s : ByteArray) : Nat → Int
  | 0 => 0
  | i + 1 => be s i * 256 + bt s i
/-- What a string begins with, of a kind: the field, how many bytes, what is wrong. -/
def tk (s : ByteArray) (k : Int) : Fd × Nat × Int :=
  if k < 1 ∨ 6 < k then (⟨k, 0, ⟨#[]⟩⟩, 0, 6)
  else if k ≤ 4 then (if s.size < wk k then (⟨k, 0, ⟨#[]⟩⟩, 0, 2) else (⟨k, be s (wk k), ⟨#[]⟩⟩, wk k, 0))
  else if k = 5 then (⟨k, (sv s).1, ⟨#[]⟩⟩, (sv s).2.1, (sv s).2.2)
  else if (sv s).2.2 ≠ 0 then (⟨k, 0, ⟨#[]⟩⟩, 0, (sv s).2.2)
  else if 65535 < (sv s).1 then (⟨k, 0, ⟨#[]⟩⟩, 0, 4)
  else if ((s.size - (sv s).2.1 : Nat) : Int) < (sv s).1 then (⟨k, 0, ⟨#[]⟩⟩, 0, 2)
  else (⟨k, 0, s.extract (sv s).2.1 ((sv s).2.1 + (sv s).1.toNat)⟩, (sv s).2.1 + (sv s).1.toNat, 0)

theorem vl_bd (s : ByteArray) : ∀ i, 0 ≤ vl s i ∧ vl s i < 128 ^ i
  | 0 => ⟨Int.le_refl _, by show (0 : Int) < 128 ^ 0; decide⟩
  | i + 1 => by
    have ih := vl_bd s i
    have hp : (0 : Int) < 128 ^ i := Int.pow_pos (by decide)
    have h1 : 0 ≤ bt s i % 128 := by omega
    have h2 : bt s i % 128 ≤ 127 := by omega
    have h3 := Int.mul_le_mul_of_nonneg_right h2 (Int.le_of_lt hp)
    have h4 := Int.mul_nonneg h1 (Int.le_of_lt hp)
    show 0 ≤ vl s i + bt s i % 128 * 128 ^ i ∧ vl s i + bt s i % 128 * 128 ^ i < 128 ^ (i + 1)
    rw [Int.pow_succ]
    omega
theorem be_bd (s : ByteArray) : ∀ i, 0 ≤ be s i ∧ be s i < 256 ^ i
  | 0 => ⟨Int.le_refl _, by show (0 : Int) < 256 ^ 0; decide⟩
  | i + 1 => by
    have ih := be_bd s i
    have b := bt_bd s i
    show 0 ≤ be s i * 256 + bt s i ∧ be s i * 256 + bt s i < 256 ^ (i + 1)
    rw [Int.pow_succ]
    omega
end Go.Proofs.Ytapjebhdgcpdjaa
