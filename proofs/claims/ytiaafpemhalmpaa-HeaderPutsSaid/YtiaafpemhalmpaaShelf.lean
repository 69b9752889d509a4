/-
  No library function is wanted here. No condition.
-/
import Derived.Test.YtiaafpemhalmpaaProg
namespace Go.Proofs.Ytiaafpemhalmpaa
end Go.Proofs.Ytiaafpemhalmpaa
