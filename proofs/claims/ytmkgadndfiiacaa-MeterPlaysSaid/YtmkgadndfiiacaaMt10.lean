/-
  The law on meters and the document's answer: true for any meters and packets. No condition.
-/
import Derived.Test.YtmkgadndfiiacaaMtP00
import Derived.Test.YtmkgadndfiiacaaMtP01
import Derived.Test.YtmkgadndfiiacaaMtP10
import Derived.Test.YtmkgadndfiiacaaMtP11
namespace Go.Proofs.Ytmkgadndfiiacaa
set_option linter.unusedVariables false
set_option linter.unusedSimpArgs false
open Go.ChangeShapes Go.WideShapes Go.ChangeAt Go.RowKit

theorem walk_meterPlays (r : Int) (r0 : 0 ≤ r) (r1 : r ≤ 18446744073709551615) (n : Int) (n0 : 0 ≤ n) (n1 : n ≤ 18446744073709551615) (f : Int) (f0 : 0 ≤ f) (f1 : f ≤ 18446744073709551615) (a : Int) (a0 : 0 ≤ a) (a1 : a ≤ 18446744073709551615) (b : Int) (b0 : 0 ≤ b) (b1 : b ≤ 18446744073709551615) (s : Int) (s0 : 0 ≤ s) (s1 : s ≤ 18446744073709551615) (q : Int) (q0 : 0 ≤ q) (q1 : q ≤ 18446744073709551615) (m : Int) (m0 : 0 ≤ m) (m1 : m ≤ 18446744073709551615) (g : Int) (g0 : 0 ≤ g) (g1 : g ≤ 18446744073709551615) (c : Int) (c0 : 0 ≤ c) (c1 : c ≤ 18446744073709551615) (d : Int) (d0 : 0 ≤ d) (d1 : d ≤ 18446744073709551615) (aa : Option Addr) (nn cc : Nat) (fs : List Act21) {w : World} (hr : RowA21 w aa nn fs) (hcap : nn ≤ cc) :
    Calls Try.prog 3 #[.agg #[.int .u64 r, .int .u64 n, .int .u64 f, .int .u64 a, .int .u64 b], .agg #[.int .u64 s, .int .u64 q, .int .u64 m, .int .u64 g, .int .u64 c, .int .u64 d], .slice aa nn cc] w fun e w' => e = .returned (.bool true) ∧ Below w.heap.size w w' := by
  by_cases hX : moe r n f = 0
  · by_cases hY : mte s q m g = 0
    · exact walk_meterPlays_00 r r0 r1 n n0 n1 f f0 f1 a a0 a1 b b0 b1 s s0 s1 q q0 q1 m m0 m1 g g0 g1 c c0 c1 d d0 d1 aa nn cc fs hr hcap hX hY
    · exact walk_meterPlays_01 r r0 r1 n n0 n1 f f0 f1 a a0 a1 b b0 b1 s s0 s1 q q0 q1 m m0 m1 g g0 g1 c c0 c1 d d0 d1 aa nn cc fs hr hcap hX hY
  · by_cases hY : mte s q m g = 0
    · exact walk_meterPlays_10 r r0 r1 n n0 n1 f f0 f1 a a0 a1 b b0 b1 s s0 s1 q q0 q1 m m0 m1 g g0 g1 c c0 c1 d d0 d1 aa nn cc fs hr hcap hX hY
    · exact walk_meterPlays_11 r r0 r1 n n0 n1 f f0 f1 a a0 a1 b b0 b1 s s0 s1 q q0 q1 m m0 m1 g g0 g1 c c0 c1 d d0 d1 aa nn cc fs hr hcap hX hY
end Go.Proofs.Ytmkgadndfiiacaa
