/-
  Lists: a row in which what stands from a place on is moved, and something put there. No condition.
-/
import Derived.Test.YtiogfgkfipekbaaCopyK
import Derived.Lib.Overlaps
import Derived.Lib.AppendZerosOnto
import Derived.Laws.Tables
namespace Go.Proofs.Ytiogfgkfipekbaa
set_option linter.unusedVariables false
set_option linter.unusedSimpArgs false
open Go.ChangeShapes Go.WideShapes Go.ChangeAt Go.RowKit

theorem shift_list {α : Type} (A S nw : List α) (k d : Nat) (hk : k ≤ A.length) (hd : nw.length = d) (hS : d ≤ S.length) :
    let cur := A ++ S
    let c1 := cur.take (k + d) ++ A.drop k ++ cur.drop (k + d + (A.drop k).length)
    c1.take k ++ nw ++ c1.drop (k + nw.length) = A.take k ++ nw ++ A.drop k ++ S.drop d := by
  intro cur c1
  have hl : (cur.take (k + d)).length = k + d := by simp [cur]; omega
  have e1 : c1.take k = A.take k := by
    show (cur.take (k + d) ++ A.drop k ++ _).take k = _
    rw [List.append_assoc, List.take_append_of_le_length (by omega), List.take_take, Nat.min_eq_left (by omega)]
    exact List.take_append_of_le_length hk
  have e2 : c1.drop (k + nw.length) = A.drop k ++ S.drop d := by
    show (cur.take (k + d) ++ A.drop k ++ _).drop (k + nw.length) = _
    rw [hd, List.append_assoc, List.drop_append_of_le_length (by omega), List.drop_of_length_le (by omega), List.nil_append]
    congr 1
    show (A ++ S).drop (k + d + (A.drop k).length) = _
    rw [List.length_drop, show k + d + (A.length - k) = A.length + d by omega, ← List.drop_drop, List.drop_left]
  rw [e1, e2]
  simp [List.append_assoc]
theorem step_copyK {P : Program} {ops : Array Oper} {o : Oper} {a : Act} {w : World} {K : Act → World → Prop} {Q : Exit → Act → World → Prop} {E : Prop}
    (hg : o.guard = none) (d x : Operand) (dT sT : TypeId) (hop : o.op = Op.call { callee := Callee.builtin Builtin.copy, args := #[d, x], argTypes := #[dT, sT] })
    (v u : Value) (hd : a.eval d = v) (hx : a.eval x = u) {v' : Value} {w' : World} (hr : (Builtin.copy_ #[dT, sT] o.type #[v, u]).run P w = .ok v' w') (hK : K (a.put o.dst v') w') :
    if Region.wanted o (yielded ops a.tmps) = true then Oper.wp P o a w K Q else E := by
  rw [if_pos (by simp [Region.wanted, hg])]
  unfold Oper.wp
  simp [execOp, hop, resolve, invoke, builtin, hd, hx, hr, Result.andThen]
  exact hK
theorem wpList_copyK {P : Program} {ops : Array Oper} {rest : List Oper} {o : Oper} {a : Act} {w : World} {Q : Exit → Act → World → Prop} (hgd : o.guard = none) (d s : Operand) (t t' : TypeId)
    (ho : o.op = .call { callee := .builtin .copy, args := #[d, s], argTypes := #[t, t'] }) (v u : Value) (hd : a.eval d = v) (hs : a.eval s = u) {v' : Value} {w' : World}
    (hr : (Builtin.copy_ #[t, t'] o.type #[v, u]).run P w = .ok v' w') (h : wpList P ops Q rest (a.put o.dst v') w') : wpList P ops Q (o :: rest) a w :=
  wpList_plain hgd fun K hK => by
    unfold Oper.wp
    simp [execOp, ho, resolve, invoke, builtin, hd, hs, hr, Result.andThen]
    exact hK _ _ h
end Go.Proofs.Ytiogfgkfipekbaa
