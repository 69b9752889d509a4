/-
  Strings of numbers as bytes, pieces of strings side by side: plain laws, for the seat of layer 3 (the same laws stand in Sum2, WireMath and WireOnlyMath for the other seat). No Go in it. No condition.
-/
import Derived.Test.YtffedahmakhjeaaDoorStr
namespace Go.Proofs.YtffedahmakhjeaaDoor
set_option linter.unusedVariables false
set_option linter.unusedSimpArgs false
open Go.ChangeShapes Go.WideShapes Go.ChangeAt Go.RowKit

/-- A string of numbers as bytes. -/
def chrs (l : List Int) : ByteArray := ⟨(l.map fun n => UInt8.ofNat n.toNat).toArray⟩
theorem byte_of (x : Int) (h0 : 0 ≤ x) (h1 : x ≤ 255) : ((UInt8.ofNat x.toNat).toNat : Int) = x := by
  rw [UInt8.toNat_ofNat_of_lt' (by simp [UInt8.size]; omega)]; omega
theorem chrs_size (l : List Int) : (chrs l).size = l.length := by
  show (l.map fun n => UInt8.ofNat n.toNat).toArray.size = _
  simp
theorem chrs_bt (x : Int) (h0 : 0 ≤ x) (h1 : x ≤ 255) : bt (chrs [x]) (0 : Nat) = x := by
  rw [bt_nat]; exact byte_of x h0 h1
theorem ext_join (x : ByteArray) (a b c : Nat) (h1 : a ≤ b) (h2 : b ≤ c) (h3 : c ≤ x.size) : x.extract a b ++ x.extract b c = x.extract a c := by
  have s1 := size_ext x a b (by omega)
  have s2 := size_ext x b c h3
  have s3 := size_ext x a c h3
  refine str_ext (by rw [ByteArray.size_append]; omega) fun k hk => ?_
  rw [ByteArray.size_append] at hk
  rw [bt_append, bt_extract x a c k (by omega)]
  split
  · rw [bt_extract _ _ _ _ (by omega)]
  · rw [bt_extract _ _ _ _ (by omega)]
    congr 1; omega
theorem ext_one (x : ByteArray) (i : Nat) (h : i < x.size) : x.extract i (i + 1) = chrs [bt x i] := by
  have b := bt_bd x i
  refine str_ext (by rw [size_ext _ _ _ (by omega), chrs_size]; show i + 1 - i = 1; omega) fun k hk => ?_
  rw [size_ext _ _ _ (by omega)] at hk
  have : k = 0 := by omega
  subst this
  rw [bt_extract _ _ _ _ (by omega), chrs_bt _ b.1 b.2]
  rfl

theorem Below.go {w a b : World} (h : Below w.heap.size w a) (k : Below a.heap.size a b) : Below w.heap.size w b := h.trans (k.mono h.size)

/-- A number's decimal signs; at most so many and one. -/
def decN : Nat → Int → ByteArray
  | 0, n => chrs [48 + n]
  | m + 1, n => if n < 10 then chrs [48 + n] else decN m (n / 10) ++ chrs [48 + n % 10]
/-- A word's decimal signs. -/
def dec (n : Int) : ByteArray := decN 19 n
theorem decN_pos : ∀ (m : Nat) (n : Int), 1 ≤ (decN m n).size ∧ (decN m n).size ≤ m + 1
  | 0, n => by show 1 ≤ (chrs [48 + n]).size ∧ (chrs [48 + n]).size ≤ 1; rw [chrs_size]; simp
  | m + 1, n => by
    unfold decN
    split
    · rw [chrs_size]; simp
    · have := decN_pos m (n / 10)
      rw [ByteArray.size_append, chrs_size]; simp; omega
/-- The number of the first signs. -/
def nv (s : ByteArray) : Nat → Int
  | 0 => 0
  | k + 1 => nv s k * 10 + (bt s k - 48)
/-- Are all signs digits, with no needless nought? -/
def Formed (s : ByteArray) : Prop := 1 ≤ s.size ∧ (∀ k, k < s.size → 48 ≤ bt s k ∧ bt s k ≤ 57) ∧ (1 < s.size → bt s 0 ≠ 48)
/-- What a string reads as: the number, what is wrong. -/
noncomputable def rd (s : ByteArray) : Int × Int := by
  classical
  exact if ¬ Formed s then (0, 3) else if 18446744073709551615 < nv s s.size then (0, 5) else (nv s s.size, 0)
theorem rd_form (s : ByteArray) (h : ¬ Formed s) : rd s = (0, 3) := by unfold rd; rw [if_pos h]
theorem rd_over (s : ByteArray) (h : Formed s) (h2 : 18446744073709551615 < nv s s.size) : rd s = (0, 5) := by unfold rd; rw [if_neg (fun hn => hn h), if_pos h2]
theorem rd_ok (s : ByteArray) (h : Formed s) (h2 : ¬ 18446744073709551615 < nv s s.size) : rd s = (nv s s.size, 0) := by unfold rd; rw [if_neg (fun hn => hn h), if_neg h2]
/-- What a byte is worth as a unit. -/
def uw (c : Int) : Int := if c = 75 then 1000 else if c = 77 then 1000000 else if c = 71 then 1000000000 else 1
end Go.Proofs.YtffedahmakhjeaaDoor
