/-
  Layer 31: the law on which prefixes are right and what they have: the walk for any arguments, with what the row lists.
-/
import Derived.Test.YtffedahmakhjeaaDoorAdr10
import Derived.Test.YtffedahmakhjeaaDoorAdrSh
import Derived.Test.YtffedahmakhjeaaDoorOpenS
namespace Go.Proofs.YtffedahmakhjeaaDoor
set_option linter.unusedVariables false
set_option linter.unusedSimpArgs false
open Go.ChangeShapes Go.WideShapes Go.ChangeAt Go.RowKit
theorem walk_addrHas (a : Int) (a0 : 0 ≤ a) (a1 : a ≤ 4294967295) (n : Int) (n0 : -9223372036854775808 ≤ n) (n1 : n ≤ 9223372036854775807) (b : Int) (b0 : 0 ≤ b) (b1 : b ≤ 4294967295) (m : Int) (m0 : -9223372036854775808 ≤ m) (m1 : m ≤ 9223372036854775807) (x : Int) (x0 : 0 ≤ x) (x1 : x ≤ 4294967295) (w : World) (H : Held31 w) :
    Calls Tryd.prog 5 #[.agg #[.int .u32 a, .int .i64 n], .agg #[.int .u32 b, .int .i64 m], .int .u32 x] w fun e w' => e = .returned (.bool true) ∧ Below w.heap.size w w' :=
  addrHas_at a a0 a1 n n0 n1 b b0 b1 m m0 m1 x x0 x1 _ _ rfl rfl w H
end Go.Proofs.YtffedahmakhjeaaDoor
