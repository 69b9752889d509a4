/-
  Package flow: Each with a plain function value whose calls all answer true: every entry, in order. No condition but that New made the table.
-/
import Derived.Test.YtcieggckmpabnaaFlowI9
namespace Go.Proofs.Ytcieggckmpabnaa
set_option linter.unusedVariables false
set_option linter.unusedSimpArgs false
open Go.ChangeShapes Go.WideShapes Go.ChangeAt Go.RowKit
attribute [local go_sem] alloc_drewN setCell_drewN

theorem func_nilI (f : Nat) (cs : Array Value) (W : World) : Sem.run Try.prog (binOp .eql 156 (.func (.func f) #[] cs) .nilFunc) W = .ok (.bool false) W := func_not_nil Try.underlying156 _ _ _ _
attribute [local go_sem] func_nilI
set_option maxRecDepth 100000 in
set_option maxHeartbeats 1000000 in
theorem each_callsI {base B : Nat} {room : Int} {v : Value} {es : List FeI} {w : World} (c0 c1 c2 c3 : Value) (J : List FeI → World → Prop) (hJ : ∀ pre V o, J pre V → J pre (V.alloc o)) (hG : ∀ pre V, J pre V → TbAtI V base B room v es)
    (hY : ∀ pre (x : FeI) rest V, es = pre ++ x :: rest → J pre V → Calls Try.prog 79 #[.int .u32 x.id, .int .i64 x.x, c0, c1, c2, c3] V fun e V' => e = .returned (.bool true) ∧ J (pre ++ [x]) V')
    (h0 : J [] w) : Calls Try.prog 78 #[.pointer (some ⟨B, 0, none⟩), .func (.func 79) #[] #[c0, c1, c2, c3]] w fun e w' => e = .returned (.tuple #[]) ∧ J es w' := by
  have P := hG [] w h0
  obtain ⟨d0, d1, d2⟩ := P.cell
  obtain ⟨a, c, rfl⟩ := row_slice P.fe
  have hle := P.le; have hr1 := P.r1
  have H0 := Lib.hid h0; have HJ := Lib.hid hJ; have HY := Lib.hid hY; have HG := Lib.hid hG
  clear hJ h0 hY hG P
  go_enter Try.func78, Try.ntmps78
  go_wp2
  go_loopw [17] (fun x wr => ∃ (pre rest : List FeI), x = .int .i64 pre.length ∧ es = pre ++ rest ∧ Hid (J pre wr)) (fun x _ => es.length - (intOf x).toNat)
  case atStart => exact ⟨[], es, rfl, rfl, H0⟩
  case round =>
    obtain ⟨pre, rest, rfl, he, hJs⟩ := hrel
    cases rest with
    | nil =>
      rw [List.append_nil] at he
      have hl0 : ¬ (pre.length : Int) < es.length := by rw [he]; omega
      have HE := Lib.hid he
      clear he
      go_wp2
      go_end0
      exact ⟨rfl, HE.out ▸ hJs.out⟩
    | cons e rest =>
      have hk : pre.length < es.length := by rw [he]; simp
      have hil : (pre.length : Int) < es.length := by omega
      have hge : es.getD pre.length FeI.nil = e := by rw [he]; simp
      obtain ⟨g, c', ev, _, _, q0, q1, _⟩ := (HG.out _ _ hJs.out).fe.at pre.length hk
      rw [hge] at q0 q1
      cases ev
      have HE := Lib.hid he
      clear he hge
      have HA : J pre (wr.alloc (.cells #[Value.int .u32 e.id, Value.int .i64 e.x] 162)) := HJ.out _ _ _ hJs.out
      have HC := Lib.hid (HY.out pre e rest _ HE.out HA)
      clear HA
      go_wp2_with fail
      refine HC.out.mono ?_
      rintro e' W3 ⟨rfl, hJ3⟩
      have HJ3 := Lib.hid hJ3
      clear hJ3
      go_wp2
      go_roundw
      case rel => exact ⟨pre ++ [e], rest, by rw [List.length_append]; rfl, by rw [HE.out]; simp, HJ3⟩
      case measure => simp [intOf]; omega
end Go.Proofs.Ytcieggckmpabnaa
