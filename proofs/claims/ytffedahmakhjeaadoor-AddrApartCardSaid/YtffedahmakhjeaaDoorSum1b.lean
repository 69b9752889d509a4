/-
  A byte behind a number's bits: 'or' is a sum. Plain laws on numbers. Condition: the numbers fit.
-/
import Derived.Test.YtffedahmakhjeaaDoorBase
import Derived.Laws.BitsLemmas
namespace Go.Proofs.YtffedahmakhjeaaDoor
open Go.ChangeShapes Go.WideShapes Go.ChangeAt Go.RowKit
theorem or_byte32 (x y : Int) (x0 : 0 ≤ x) (x1 : x ≤ 16777215) (y0 : 0 ≤ y) (y1 : y ≤ 255) : bits .or .u32 (x * 256) y = x * 256 + y :=
  bits_join .u32 32 (by decide) (fun n h0 h1 => by rw [IntKind.wrap_u32]; omega) 8 (x * 256) y (by omega) (by omega) (by omega) y0 (by omega) (by omega)
end Go.Proofs.YtffedahmakhjeaaDoor
