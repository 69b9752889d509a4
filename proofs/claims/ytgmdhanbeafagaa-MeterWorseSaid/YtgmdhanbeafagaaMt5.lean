/-
  The law on which colour is no better: true for any meters and packet. No condition.
-/
import Derived.Test.YtgmdhanbeafagaaMt5a
import Derived.Test.YtgmdhanbeafagaaMt5b
import Derived.Test.YtgmdhanbeafagaaMt5c
namespace Go.Proofs.Ytgmdhanbeafagaa
set_option linter.unusedVariables false
set_option linter.unusedSimpArgs false
open Go.ChangeShapes Go.WideShapes Go.ChangeAt Go.RowKit
attribute [local go_sem] alloc_drewN setCell_drewN

theorem walk_meterWorse (r : Int) (r0 : 0 ≤ r) (r1 : r ≤ 18446744073709551615) (n : Int) (n0 : 0 ≤ n) (n1 : n ≤ 18446744073709551615) (f : Int) (f0 : 0 ≤ f) (f1 : f ≤ 18446744073709551615) (a : Int) (a0 : 0 ≤ a) (a1 : a ≤ 18446744073709551615) (b : Int) (b0 : 0 ≤ b) (b1 : b ≤ 18446744073709551615) (s : Int) (s0 : 0 ≤ s) (s1 : s ≤ 18446744073709551615) (q : Int) (q0 : 0 ≤ q) (q1 : q ≤ 18446744073709551615) (m : Int) (m0 : 0 ≤ m) (m1 : m ≤ 18446744073709551615) (g : Int) (g0 : 0 ≤ g) (g1 : g ≤ 18446744073709551615) (c : Int) (c0 : 0 ≤ c) (c1 : c ≤ 18446744073709551615) (d : Int) (d0 : 0 ≤ d) (d1 : d ≤ 18446744073709551615) (y : Int) (y0 : 0 ≤ y) (y1 : y ≤ 18446744073709551615) (k : Int) (k0 : 0 ≤ k) (k1 : k ≤ 18446744073709551615) (h : Int) (h0 : -9223372036854775808 ≤ h) (h1 : h ≤ 9223372036854775807) (w : World) :
    Calls Try.prog 8 #[.agg #[.int .u64 r, .int .u64 n, .int .u64 f, .int .u64 a, .int .u64 b], .agg #[.int .u64 s, .int .u64 q, .int .u64 m, .int .u64 g, .int .u64 c, .int .u64 d], .agg #[.int .u64 y, .int .u64 k, .int .i64 h]] w fun e w' => e = .returned (.bool true) ∧ Below w.heap.size w w' := by
  have hl : (decide (h < 1) = true ∧ lst21 h = 1) ∨ (decide (h < 1) = false ∧ decide (3 < h) = true ∧ lst21 h = 1) ∨ (decide (h < 1) = false ∧ decide (3 < h) = false ∧ lst21 h = h) := by
    unfold lst21
    by_cases x1 : h < 1
    · exact Or.inl ⟨decide_eq_true x1, if_pos (Or.inl x1)⟩
    · by_cases x2 : 3 < h
      · exact Or.inr (Or.inl ⟨decide_eq_false x1, decide_eq_true x2, if_pos (Or.inr x2)⟩)
      · exact Or.inr (Or.inr ⟨decide_eq_false x1, decide_eq_false x2, if_neg (fun x => x.elim x1 x2)⟩)
  rcases hl with ⟨hl1, hl⟩ | ⟨hl1, hl2, hl⟩ | ⟨hl1, hl2, hl⟩
  · exact walk_meterWorse0 r r0 r1 n n0 n1 f f0 f1 a a0 a1 b b0 b1 s s0 s1 q q0 q1 m m0 m1 g g0 g1 c c0 c1 d d0 d1 y y0 y1 k k0 k1 h h0 h1 hl1 hl w
  · exact walk_meterWorse1 r r0 r1 n n0 n1 f f0 f1 a a0 a1 b b0 b1 s s0 s1 q q0 q1 m m0 m1 g g0 g1 c c0 c1 d d0 d1 y y0 y1 k k0 k1 h h0 h1 hl1 hl2 hl w
  · exact walk_meterWorse2 r r0 r1 n n0 n1 f f0 f1 a a0 a1 b b0 b1 s s0 s1 q q0 q1 m m0 m1 g g0 g1 c c0 c1 d d0 d1 y y0 y1 k k0 k1 h h0 h1 hl1 hl2 hl w
end Go.Proofs.Ytgmdhanbeafagaa
