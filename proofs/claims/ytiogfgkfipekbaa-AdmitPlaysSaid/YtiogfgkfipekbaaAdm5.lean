/-
  Package admit: the gate of the example: one flow. No condition.
-/
import Derived.Test.YtiogfgkfipekbaaAdm4
namespace Go.Proofs.Ytiogfgkfipekbaa
set_option linter.unusedVariables false
set_option linter.unusedSimpArgs false
open Go.ChangeShapes Go.WideShapes Go.ChangeAt Go.RowKit
attribute [local go_sem] alloc_drewN setCell_drewN

theorem alloc_two (w : World) (X Y : Obj) : ((w.alloc X).alloc Y).heap[w.heap.size + 1]? = some Y := by
  have := heap_alloc_new (w.alloc X) Y
  simpa using this
theorem below_onto {w a b : World} {B : Nat} (h : Below B w a) (k : Below a.heap.size a b) (hB : B ≤ a.heap.size) : Below B w b := h.trans (k.mono hB)
theorem isF_nil (x : Int) : isF (([] : List FeP).map FeP.id) x = false := by unfold isF; rfl
theorem lessC_nil (x : Int) : lessC (([] : List FeP).map FeP.id) x = 0 := Nat.le_zero.1 (lessC_le [] x)
set_option maxRecDepth 100000 in
set_option maxHeartbeats 1000000 in
/-- The table of one flow. -/
theorem anewT1 (b : Nat) (id co bu sz cp : Int) (w : World) (hb : w.heap[b]? = some (.cells #[.int .u32 id, .int .u64 co, .int .u64 bu, .int .u64 sz, .int .u64 cp] 100 (0, 0))) :
    Calls Try.prog 48 #[.slice (some ⟨b, 0, none⟩) 1 1] w fun e w' => e = .returned (.tuple #[.pointer (some ⟨w.heap.size, 0, none⟩), .int .i64 0]) ∧ ∃ v bd, TbAtP w' w.heap.size w.heap.size 1 v [⟨id, some ⟨bd, 0, none⟩⟩] ∧ w.heap.size ≤ bd ∧ DtAt w' bd ⟨0, 0, cp⟩ ∧ Below w.heap.size w w' := by
  have NT := Lib.hid (tnewP 1 (by decide) (by decide) w)
  have HBk := Lib.hid hb
  have hlt := (Array.getElem?_eq_some_iff.1 hb).1
  clear hb
  go_enter Try.func48, Try.ntmps48
  go_wp2_with fail
  refine NT.out.mono ?_
  rintro e w1 ⟨rfl, t1, b1⟩
  have T1 := Lib.hid t1
  have B1 := Lib.hid b1
  have hk := (b1.block b hlt).trans HBk.out
  have c0 : w1.cell? ⟨b, 0, none⟩ = some (.int .u32 id) := cell_of_row w1 b 0 _ _ (0, 0) hk
  have c1 : w1.cell? ⟨b, 1, none⟩ = some (.int .u64 co) := cell_of_row w1 b 1 _ _ (0, 0) hk
  have c2 : w1.cell? ⟨b, 2, none⟩ = some (.int .u64 bu) := cell_of_row w1 b 2 _ _ (0, 0) hk
  have c3 : w1.cell? ⟨b, 3, none⟩ = some (.int .u64 sz) := cell_of_row w1 b 3 _ _ (0, 0) hk
  have c4 : w1.cell? ⟨b, 4, none⟩ = some (.int .u64 cp) := cell_of_row w1 b 4 _ _ (0, 0) hk
  have TL := Lib.hid (b1.size)
  have TB := Lib.hid ((t1.inlt (Or.inl rfl)).2)
  clear t1 b1 hk NT hlt
  go_wp2
  refine wp_loop_rounds 2 ?_
  rw [rounds_succ]
  have bb : Below w1.heap.size w1 ((w1.alloc (.cells #[.int .u32 id, .int .u64 co, .int .u64 bu, .int .u64 sz, .int .u64 cp] 100)).alloc (.cells #[.int .i64 0, .int .u64 0, .int .u64 cp] 118)) := ((Below.refl _ w1).alloc (Nat.le_refl _) _).alloc (by simp) _
  have PUT := tput_okP (T1.out.below bb) (Nat.le_trans TL.out bb.size) id (some ⟨w1.heap.size + 1, 0, none⟩) (isF_nil id) (by decide)
  rw [lessC_nil] at PUT
  have PH := Lib.hid PUT
  have BB := Lib.hid bb
  clear PUT bb
  go_wp2_with fail
  refine PH.out.mono ?_
  rintro e w3 ⟨rfl, v', t3, m3⟩
  have D3 := Lib.hid (show DtAt w3 (w1.heap.size + 1) ⟨0, 0, cp⟩ from (m3.block (w1.heap.size + 1) (by simp) (fun hj => by
    rcases hj with hj | hj
    · have := TB.out; omega
    · cases hj)).trans (alloc_two w1 (.cells #[.int .u32 id, .int .u64 co, .int .u64 bu, .int .u64 sz, .int .u64 cp] 100) (.cells #[.int .i64 0, .int .u64 0, .int .u64 cp] 118)))
  have B3 := Lib.hid (m3.below (below_onto B1.out BB.out B1.out.size) (fun j hj => by
    rcases hj with hj | hj
    · rw [hj]; exact Nat.le_refl _
    · cases hj) (Nat.le_trans TL.out BB.out.size))
  have T3 := Lib.hid t3
  have L3 := Lib.hid (show w.heap.size ≤ w1.heap.size + 1 from Nat.le_succ_of_le TL.out)
  clear t3 m3 PH
  go_wp2
  rw [rounds_succ]
  go_wp2
  go_ret2
  exact ⟨rfl, v', w1.heap.size + 1, T3.out, L3.out, D3.out, B3.out⟩
end Go.Proofs.Ytiogfgkfipekbaa
