/-
  Package flow: words for tables of every element type. No condition.
-/
import Derived.Test.YtiogfgkfipekbaaAifoSearch
namespace Go.Proofs.Ytiogfgkfipekbaa
set_option linter.unusedVariables false
set_option linter.unusedSimpArgs false

/-- Is the number there? -/
def isF (S : List Int) (x : Int) : Bool := decide (lessC S x < S.length) && decide (S.getD (lessC S x) 0 = x)
def inTb (B : Nat) (v : Value) (j : Nat) : Prop := j = B ∨ v.ownBlock = some j
end Go.Proofs.Ytiogfgkfipekbaa
