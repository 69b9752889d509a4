/-
  Layer 31: the law on two prefixes: the walk for any arguments, walked: true for any arguments. What the library's variables hold is handed on.
-/
import Derived.Test.YtffedahmakhjeaaDoorAdr12a
import Derived.Test.YtffedahmakhjeaaDoorAdr12b
import Derived.Test.YtffedahmakhjeaaDoorAdr12c
import Derived.Test.YtffedahmakhjeaaDoorAdrSh
import Derived.Test.YtffedahmakhjeaaDoorOpenS
import Derived.Deep.CutBlock
import Derived.Deep.DeepCutAuto
namespace Go.Proofs.YtffedahmakhjeaaDoor
set_option linter.unusedVariables false
set_option linter.unusedSimpArgs false
open Go.ChangeShapes Go.WideShapes Go.ChangeAt Go.RowKit
attribute [local go_sem] alloc_drewN setCell_drewN

theorem walk_addrApart (a : Int) (a0 : 0 ≤ a) (a1 : a ≤ 4294967295) (n : Int) (n0 : -9223372036854775808 ≤ n) (n1 : n ≤ 9223372036854775807) (b : Int) (b0 : 0 ≤ b) (b1 : b ≤ 4294967295) (m : Int) (m0 : -9223372036854775808 ≤ m) (m1 : m ≤ 9223372036854775807) (x : Int) (x0 : 0 ≤ x) (x1 : x ≤ 4294967295) (w : World) (H : Held31 w) :
    Calls Tryd.prog 6 #[.agg #[.int .u32 a, .int .i64 n], .agg #[.int .u32 b, .int .i64 m], .int .u32 x] w fun e w' => e = .returned (.bool true) ∧ Below w.heap.size w w' := by
  by_cases hp : RtP a n
  · by_cases hq : RtP b m
    · by_cases h1 : CvP a n b m
      · by_cases hA : HsP a n x
        · by_cases hB : HsP b m x
          · exact apart_TFTT a a0 a1 n n0 n1 b b0 b1 m m0 m1 x x0 x1 hp hq h1 hA hB w H
          · exact apart_TFTF a a0 a1 n n0 n1 b b0 b1 m m0 m1 x x0 x1 hp hq h1 hA hB w H
        · have hB : ¬ HsP b m x := fun h => hA (has_more h1 h)
          exact apart_TFFF a a0 a1 n n0 n1 b b0 b1 m m0 m1 x x0 x1 hp hq h1 hA hB w H
      · by_cases h2 : CvP b m a n
        · by_cases hB : HsP b m x
          · by_cases hA : HsP a n x
            · exact apart_FTTT a a0 a1 n n0 n1 b b0 b1 m m0 m1 x x0 x1 hp hq h1 h2 hA hB w H
            · exact apart_FTFT a a0 a1 n n0 n1 b b0 b1 m m0 m1 x x0 x1 hp hq h1 h2 hA hB w H
          · have hA : ¬ HsP a n x := fun h => hB (has_more h2 h)
            exact apart_FTFF a a0 a1 n n0 n1 b b0 b1 m m0 m1 x x0 x1 hp hq h1 h2 hA hB w H
        · by_cases hA : HsP a n x
          · have hB : ¬ HsP b m x := fun h => (cover_or hA h).elim h1 h2
            exact apart_FFTF a a0 a1 n n0 n1 b b0 b1 m m0 m1 x x0 x1 hp hq h1 h2 hA hB w H
          · by_cases hB : HsP b m x
            · exact apart_FFFT a a0 a1 n n0 n1 b b0 b1 m m0 m1 x x0 x1 hp hq h1 h2 hA hB w H
            · exact apart_FFFF a a0 a1 n n0 n1 b b0 b1 m m0 m1 x x0 x1 hp hq h1 h2 hA hB w H
    · exact apart_q a a0 a1 n n0 n1 b b0 b1 m m0 m1 x x0 x1 hp hq w H
  · exact apart_p a a0 a1 n n0 n1 b b0 b1 m m0 m1 x x0 x1 hp w H
end Go.Proofs.YtffedahmakhjeaaDoor
