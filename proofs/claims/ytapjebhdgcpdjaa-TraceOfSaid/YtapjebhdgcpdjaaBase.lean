/-
  Plain words and laws that the other texts of this seat use: digits of base 2^32, wide numbers of four of them, numbers that stop at the greatest one. No Go in it. No condition.
-/
import Derived.WalkKit
import Derived.ProofKit
import Derived.OpenShut
import Derived.Handy
import Derived.Lib.BitFns
import Derived.Lib.Hide
import Derived.Deep.QuietTactic
import Derived.BigQuiet
namespace Go.Proofs.Ytapjebhdgcpdjaa
set_option linter.unusedVariables false
set_option linter.unusedSimpArgs false
open Go.ChangeShapes Go.WideShapes Go.ChangeAt Go.RowKit

/-- A digit of base 2^32. -/
def Dg (x : Int) : Prop := 0 ≤ x ∧ x ≤ 4294967295
/-- A word. -/
def Wd (x : Int) : Prop := 0 ≤ x ∧ x ≤ 18446744073709551615
/-- A wide number, by its digits. -/
def Wide (a b c d n : Int) : Prop := Dg a ∧ Dg b ∧ Dg c ∧ Dg d ∧ a + b * 4294967296 + c * 18446744073709551616 + d * 79228162514264337593543950336 = n
/-- A number that stops at the greatest one. -/
def cap (n : Int) : Int := if n ≤ 18446744073709551615 then n else 18446744073709551615
/-- What is left of a number of two words. -/
def capHi (h l : Int) : Int := if h = 0 then l else 18446744073709551615

theorem cap_wd {n : Int} (h : 0 ≤ n) : Wd (cap n) := by unfold cap Wd; split <;> omega
theorem capHi_eq (n : Int) (h : 0 ≤ n) : capHi (n / 18446744073709551616) (n % 18446744073709551616) = cap n := by
  unfold capHi cap
  split <;> split <;> omega
theorem cap_of {n : Int} (h : n ≤ 18446744073709551615) : cap n = n := by unfold cap; rw [if_pos h]
theorem cap_over {n : Int} (h : 18446744073709551615 < n) : cap n = 18446744073709551615 := by unfold cap; rw [if_neg (by omega)]
theorem cap_mono {m n : Int} (h : m ≤ n) : cap m ≤ cap n := by unfold cap; split <;> split <;> omega
theorem cap_add_cap {m n : Int} (hm : 0 ≤ m) : cap (m + cap n) = cap (m + n) := by
  unfold cap; split <;> split <;> (try split) <;> omega

theorem dg_mul (a b : Int) (h0 : 0 ≤ a) (h1 : a ≤ 4294967295) (g0 : 0 ≤ b) (g1 : b ≤ 4294967295) : 0 ≤ a * b ∧ a * b ≤ 18446744065119617025 := by
  refine ⟨Int.mul_nonneg h0 g0, ?_⟩
  have := Int.mul_le_mul h1 g1 g0 (by omega)
  omega
theorem wd_mul (a b : Int) (h0 : 0 ≤ a) (h1 : a ≤ 18446744073709551615) (g0 : 0 ≤ b) (g1 : b ≤ 18446744073709551615) : 0 ≤ a * b ∧ a * b ≤ 340282366920938463426481119284349108225 := by
  refine ⟨Int.mul_nonneg h0 g0, ?_⟩
  have := Int.mul_le_mul h1 g1 g0 (by omega)
  omega
theorem mul_digits (a b c d : Int) : (a + b * 4294967296) * (c + d * 4294967296) = a * c + (a * d + b * c) * 4294967296 + b * d * 18446744073709551616 := by
  simp only [Int.add_mul, Int.mul_add]
  have e1 : a * (d * 4294967296) = a * d * 4294967296 := by rw [Int.mul_assoc]
  have e2 : b * 4294967296 * c = b * c * 4294967296 := by rw [Int.mul_assoc, Int.mul_comm 4294967296 c, ← Int.mul_assoc]
  have e3 : b * 4294967296 * (d * 4294967296) = b * d * 18446744073709551616 := by rw [Int.mul_assoc, Int.mul_left_comm 4294967296, ← Int.mul_assoc]; rfl
  omega

/-- Of two wide numbers the highest digit in which they part decides. -/
theorem wide_lt {a0 a1 a2 a3 m b0 b1 b2 b3 n : Int} (ha : Wide a0 a1 a2 a3 m) (hb : Wide b0 b1 b2 b3 n) :
    (a3 ≠ b3 → (decide (a3 < b3) = decide (m < n))) ∧ (a3 = b3 → a2 ≠ b2 → (decide (a2 < b2) = decide (m < n))) ∧
    (a3 = b3 → a2 = b2 → a1 ≠ b1 → (decide (a1 < b1) = decide (m < n))) ∧ (a3 = b3 → a2 = b2 → a1 = b1 → a0 ≠ b0 → (decide (a0 < b0) = decide (m < n))) ∧
    (a3 = b3 → a2 = b2 → a1 = b1 → a0 = b0 → (false = decide (m < n))) := by
  obtain ⟨⟨_, _⟩, ⟨_, _⟩, ⟨_, _⟩, ⟨_, _⟩, hm⟩ := ha
  obtain ⟨⟨_, _⟩, ⟨_, _⟩, ⟨_, _⟩, ⟨_, _⟩, hn⟩ := hb
  refine ⟨fun h => ?_, fun h1 h => ?_, fun h1 h2 h => ?_, fun h1 h2 h3 h => ?_, fun h1 h2 h3 h4 => ?_⟩
  · rw [decide_eq_decide]; omega
  · rw [decide_eq_decide]; omega
  · rw [decide_eq_decide]; omega
  · rw [decide_eq_decide]; omega
  · simp; omega

theorem below_drewN (n : Nat) {B : Nat} {a w : World} (h : Below B a w) : Below B a (w.drewN n) := ⟨h.os, h.tape, h.output, h.size, h.block⟩
theorem alloc_drewN (w : World) (n : Nat) (o : Obj) : (w.drewN n).alloc o = (w.alloc o).drewN n := rfl
theorem setCell_drewN (w : World) (n : Nat) (a : Addr) (v : Value) : (w.drewN n).setCell a v = (w.setCell a v).drewN n := rfl
theorem bcell {W w1 : World} (hb : Below W.heap.size W w1) : (∀ b o, b < W.heap.size → w1.cell? ⟨b, o, none⟩ = W.cell? ⟨b, o, none⟩) ∧ (∀ b o, b < W.heap.size → w1.frozen? ⟨b, o, none⟩ = W.frozen? ⟨b, o, none⟩) :=
  ⟨fun b o h => hb.cell (p := ⟨b, o, none⟩) h, fun b o h => hb.frozen (p := ⟨b, o, none⟩) h⟩
end Go.Proofs.Ytapjebhdgcpdjaa
