/-
  Package flow for elements of type string: what the iterator Each tells: every entry, in order. No condition but that New made the table.
-/
import Derived.Test.YtcieggckmpabnaaFlowT8
import Derived.Test.YtcieggckmpabnaaRangeM
import Derived.Test.YtcieggckmpabnaaFlowY
import Derived.RangeFuncNested
import Derived.RangeFuncBound
import Derived.RangeFuncCalls
import Derived.RangeFuncLeaves
import Derived.RangeFuncBox
import Derived.Shelf.RegionOpen
import Derived.OwnWalkIn
import Derived.TacticsInMore
import Derived.LoopNIn
import Derived.LoopIn
namespace Go.Proofs.Ytcieggckmpabnaa
set_option linter.unusedVariables false
set_option linter.unusedSimpArgs false
open Go.ChangeShapes Go.WideShapes Go.ChangeAt Go.RowKit Go.Shelf
attribute [local go_sem] Oper.semAt_some yield_nilT

set_option maxRecDepth 100000 in
set_option maxHeartbeats 1000000 in
theorem each_tellsT {base B : Nat} {room : Int} {v : Value} {es : List FeT} (n : Nat) :
    Tells Fence.wide n Try.prog 109 (.pointer (some ⟨B, 0, none⟩)) (fun e : FeT => #[Value.int .u32 e.id, Value.string e.x]) es (fun V => TbAtT V base B room v es) := fun l J W hJ hG hY h0 => by
  have P := hG [] W h0
  obtain ⟨c0, c1, c2⟩ := P.cell
  obtain ⟨a, c, rfl⟩ := row_slice P.fe
  have hle := P.le; have hr1 := P.r1
  have H0 := Lib.hid h0; have HJ := Lib.hid hJ; have HY := Lib.hid hY; have HG := Lib.hid hG
  clear hJ h0 hY hG P
  refine callsIn_of_wp Try.func109 rfl trivial ?_ rfl
  simp only [Try.ntmps109, List.size_toArray, List.length_cons, List.length_nil, Nat.reduceAdd, Nat.reduceSub, Array.replicate_succ, Array.replicate_zero, List.push_toArray, List.append_toArray, List.nil_append, List.cons_append]
  gi_wp2
  gi_loopw [17] (fun x wr => ∃ (pre rest : List FeT), x = .int .i64 pre.length ∧ es = pre ++ rest ∧ Hid (J pre wr))
    (fun x _ => es.length - (intOf x).toNat)
  case atStart => exact ⟨[], es, rfl, rfl, H0⟩
  case round =>
    obtain ⟨pre, rest, rfl, he, hJs⟩ := hrel
    cases rest with
    | nil =>
      rw [List.append_nil] at he
      have hl0 : ¬ (pre.length : Int) < es.length := by rw [he]; omega
      have HE := Lib.hid he
      clear he
      gi_wp2
      go_end0
      exact ⟨⟨_, rfl⟩, HE.out ▸ hJs.out⟩
    | cons e rest =>
      have hk : pre.length < es.length := by rw [he]; simp
      have hil : (pre.length : Int) < es.length := by omega
      have hge : es.getD pre.length FeT.nil = e := by rw [he]; simp
      obtain ⟨g, c', ev, _, _, q0, q1, _⟩ := (HG.out _ _ hJs.out).fe.at pre.length hk
      rw [hge] at q0 q1
      cases ev
      have HE := Lib.hid he
      clear he hge
      have HA : J pre (wr.alloc (.cells #[Value.int .u32 e.id, Value.string e.x] 198)) := HJ.out _ _ _ none hJs.out (World.grownBy_alloc wr _ none) (fun r h => by cases h)
      obtain ⟨fn, tmps, assign, body, hy, hR⟩ := HY.out pre e rest _ HE.out HA
      clear HA
      gi_wp2
      refine ⟨(fun h => by cases h), hR.mono ?_⟩
      rintro e' W3 ⟨rfl, hJ3⟩
      have HJ3 := Lib.hid hJ3
      clear hJ3
      gi_wp2
      refine ⟨⟨pre ++ [e], rest, by rw [List.length_append]; rfl, by rw [HE.out]; simp, HJ3⟩, ?_⟩
      simp [intOf]
      omega
end Go.Proofs.Ytcieggckmpabnaa
