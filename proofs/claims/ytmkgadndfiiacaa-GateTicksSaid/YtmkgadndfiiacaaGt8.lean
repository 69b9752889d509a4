/-
  Package gate: the iterator's making, whether there is a class, whether it is open in a slot. No condition but that numbers are words.
-/
import Derived.Test.YtmkgadndfiiacaaGt7
import Derived.Test.YtmkgadndfiiacaaRef1c
import Derived.Lib.VarintBits
namespace Go.Proofs.Ytmkgadndfiiacaa
set_option linter.unusedVariables false
set_option linter.unusedSimpArgs false
open Go.ChangeShapes Go.WideShapes Go.ChangeAt Go.RowKit
attribute [local go_sem] alloc_drewN setCell_drewN

theorem sfrom22 (a : Option Addr) (n c : Nat) (t : Int) (w : World) :
    Calls Try.prog 88 #[.slice a n c, .int .u64 t] w fun e w' => e = .returned (.func (.func 140) #[] #[.pointer (some ⟨w.heap.size, 0, none⟩), .pointer (some ⟨w.heap.size + 1, 0, none⟩)]) ∧ w' = (w.alloc (.cells #[.slice a n c] 53)).alloc (.cells #[.int .u64 t] 22) := by
  go_enter Try.func88, Try.ntmps88
  go_wp2
  go_ret
  exact ⟨by simp, rfl⟩
theorem isclass22 (cl : Nat) (h : cl ≤ 7) (w : World) : Calls Try.prog 87 #[.int .i64 cl] w fun e w' => e = .returned (.bool true) ∧ w' = w := by
  have h0 : (0 : Int) ≤ cl := by omega
  have h1 : (cl : Int) < 8 := by omega
  go_enter Try.func87, Try.ntmps87
  go_wp2
  go_ret
  exact ⟨by simp [h0, h1], rfl⟩
theorem and1_u8 (x : Int) (h₀ : 0 ≤ x) (h₁ : x ≤ 255) : bits .and .u8 x 1 = x % 2 := bits_mask .u8 8 (by decide) wraps_u8 1 (by decide) x h₀ (by omega)
theorem hlv_div (o : Int) : ∀ i : Nat, hlv o i = o / 2 ^ i
  | 0 => by simp [hlv]
  | i + 1 => by
    simp only [hlv]
    rw [hlv_div o i, Int.pow_succ, Int.ediv_ediv_of_nonneg (Int.le_of_lt (Int.pow_pos (by decide)))]
theorem has22 (o s : Int) (o0 : 0 ≤ o) (o1 : o ≤ 255) (cl : Nat) (h : cl ≤ 7) (w : World) : Calls Try.prog 89 #[.agg #[.int .u8 o, .int .u64 s], .int .i64 cl] w fun e w' => e = .returned (.bool (decide (hlv o cl % 2 = 1))) ∧ Below w.heap.size w w' := by
  have h0 : (0 : Int) ≤ cl := by omega
  have h1 : (cl : Int) < 8 := by omega
  go_enter Try.func89, Try.ntmps89
  go_wp2
  obtain ⟨a0, a1⟩ := hlv_wd o0 o1 cl
  have e1 := and1_u8 (hlv o cl) a0 a1
  rw [hlv_div] at e1
  go_ret
  refine ⟨?_, (Below.refl _ w).alloc (Nat.le_refl _) _⟩
  show Ending.returned (.bool (bits BinOp.and IntKind.u8 (o / 2 ^ cl) 1 == 1)) = _
  rw [e1, hlv_div]
  rfl
end Go.Proofs.Ytmkgadndfiiacaa
