/-
  Package flow for elements of type *pacemaker/admit.data: Get. No block turns but the table's own. No condition but that New made it.
-/
import Derived.Test.YtiogfgkfipekbaaFlowP7
namespace Go.Proofs.Ytiogfgkfipekbaa
set_option linter.unusedVariables false
set_option linter.unusedSimpArgs false
open Go.ChangeShapes Go.WideShapes Go.ChangeAt Go.RowKit
attribute [local go_sem] alloc_drewN setCell_drewN

section
variable {w : World} {base B : Nat} {room : Int} {v : Value} {es : List FeP}
theorem tget_noP (h : TbAtP w base B room v es) (id : Int) (hf : isF (es.map FeP.id) id = false) : Calls Try.prog 54 #[.pointer (some ⟨B, 0, none⟩), .int .u32 id] w fun e w' => e = .returned (.tuple #[Value.pointer none, .bool false]) ∧ Below w.heap.size w w' := by
  have FD := tfindP h id
  rw [hf] at FD
  have FH := Lib.hid FD
  clear h FD hf
  generalize lessC (es.map FeP.id) id = k at *
  go_enter Try.func54, Try.ntmps54
  go_wp2_with fail
  refine FH.out.mono ?_
  rintro e w1 ⟨rfl, b1⟩
  have B1 := Lib.hid b1
  clear b1
  go_wp2
  go_ret2
  exact ⟨rfl, B1.out⟩
theorem tget_atP (h : TbAtP w base B room v es) (id : Int) (hf : isF (es.map FeP.id) id = true) : Calls Try.prog 54 #[.pointer (some ⟨B, 0, none⟩), .int .u32 id] w fun e w' => e = .returned (.tuple #[Value.pointer (es.getD (lessC (es.map FeP.id) id) FeP.nil).x, .bool true]) ∧ Below w.heap.size w w' := by
  have FD := tfindP h id
  rw [hf] at FD
  have FH := Lib.hid FD
  have hk := (isF_get hf).1
  rw [List.length_map] at hk
  have CC := Lib.hid (fun W (hb : Below w.heap.size w W) => (h.below hb).cell)
  have AT := Lib.hid (fun W (hb : Below w.heap.size w W) => (h.below hb).fe.at _ hk)
  clear h FD hf
  generalize lessC (es.map FeP.id) id = k at *
  have z0 : (0 : Int) ≤ k := by omega
  have z1 : (k : Int) < es.length := by omega
  obtain ⟨y, hy⟩ : ∃ y, (es.getD k FeP.nil).x = y := ⟨_, rfl⟩
  rw [hy] at AT ⊢
  clear hy
  go_enter Try.func54, Try.ntmps54
  go_wp2_with fail
  refine FH.out.mono ?_
  rintro e w1 ⟨rfl, b1⟩
  obtain ⟨c0, c1, -⟩ := CC.out w1 b1
  obtain ⟨g, c, rfl, _, _, d0, d1, -⟩ := AT.out w1 b1
  have B1 := Lib.hid b1
  clear b1
  generalize (es.getD k FeP.nil).id = yi at *
  go_wp2
  go_ret2
  exact ⟨rfl, B1.out⟩
end
end Go.Proofs.Ytiogfgkfipekbaa
