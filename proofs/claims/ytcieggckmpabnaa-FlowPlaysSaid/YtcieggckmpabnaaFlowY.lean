/-
  A function that a range over a function hands in is not nil.
-/
import Derived.Test.YtcieggckmpabnaaFlowI8
import Derived.Test.YtcieggckmpabnaaRangeM
namespace Go.Proofs.Ytcieggckmpabnaa
open Go.RowKit
theorem func_not_nil {P : Program} {t : TypeId} {ps rs : Array TypeId} {vd : Bool} (h : P.underlying t = some (.func ps rs vd)) (f : Fn) (bs cs : Array Value) (W : World) : Sem.run P (binOp .eql t (.func f bs cs) .nilFunc) W = .ok (.bool false) W := by
  have e : ∀ d, Sem.run P (Op.equalIn (d + 1) t (.func f bs cs) .nilFunc) W = .ok false W := fun d => by simp [Op.equalIn, run_underlying h]
  simp only [binOp]
  simp [Op.equal, Op.maxDepth, e 9999]
theorem yield_nilI (l : Nat) (W : World) : Sem.run Try.prog (binOp .eql 156 (.func (.yield l) #[] #[]) .nilFunc) W = .ok (.bool false) W := func_not_nil Try.underlying156 _ _ _ _
theorem yield_nilT (l : Nat) (W : World) : Sem.run Try.prog (binOp .eql 225 (.func (.yield l) #[] #[]) .nilFunc) W = .ok (.bool false) W := func_not_nil Try.underlying225 _ _ _ _
end Go.Proofs.Ytcieggckmpabnaa
