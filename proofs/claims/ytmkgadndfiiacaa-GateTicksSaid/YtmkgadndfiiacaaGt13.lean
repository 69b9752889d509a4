/-
  Layer 22: the example. No condition.
-/
import Derived.Test.YtmkgadndfiiacaaGt12
namespace Go.Proofs.Ytmkgadndfiiacaa
set_option linter.unusedVariables false
set_option linter.unusedSimpArgs false
open Go.ChangeShapes Go.WideShapes Go.ChangeAt Go.RowKit
attribute [local go_sem] alloc_drewN setCell_drewN

def L22 : List Slot22 := [⟨1, 3⟩, ⟨2, 5⟩]
theorem ok22 : PlanOk L22 2 := by decide
theorem sp22 : spans L22 2 = 8 := by decide
theorem in22 (t : Int) (k : Nat) (h : k < 2 ∧ spans L22 k ≤ t % 8 ∧ t % 8 < spans L22 (k + 1)) : InSlot L22 2 (t % spans L22 2) k := by
  rw [sp22]; exact h
theorem nx1 : NextIs L22 2 0 (2 % spans L22 2) 0 (spans L22 2) (min (max 2 1) (spans L22 2)) 2 true 6 := by
  rw [sp22]
  refine ⟨fun i hi => ?_, Or.inl ⟨by decide, by decide, rfl, by decide⟩⟩
  match i, hi with
  | 0, _ => exact ⟨fun _ => by decide, by decide⟩
  | 1, _ => exact ⟨fun h => absurd h (by decide), by decide⟩
theorem nx2 : NextIs L22 2 0 (2 % spans L22 2) 0 (spans L22 2) (min (max 4 1) (spans L22 2)) 3 false 0 := by
  rw [sp22]
  refine ⟨fun i hi => ?_, Or.inr ⟨fun h => absurd h (by decide), by decide, rfl, rfl⟩⟩
  match i, hi with
  | 0, _ => exact ⟨fun _ => by decide, by decide⟩
  | 1, _ => exact ⟨fun h => absurd h (by decide), by decide⟩
  | 2, _ => exact ⟨fun _ => by decide, by decide⟩
set_option maxHeartbeats 1000000 in
theorem lives22 (w : World) : Calls Try.prog 24 #[] w fun e w' => e = .returned (.bool true) ∧ Below w.heap.size w w' := by
  have hrow : RowSl (w.alloc (.cells #[.int .u8 1, .int .u64 3, .int .u8 2, .int .u64 5] 67)) (some ⟨w.heap.size, 0, none⟩) 2 L22 := by
    have hb := heap_alloc_new w (.cells #[.int .u8 1, .int .u64 3, .int .u8 2, .int .u64 5] 67)
    refine ⟨rfl, by decide, ?_, fun _ => ⟨w.heap.size, 0, rfl, by simp, ?_⟩⟩
    · intro x hx
      rcases List.mem_cons.1 hx with rfl | hx
      · exact ⟨by decide, by decide⟩
      · rcases List.mem_cons.1 hx with rfl | hx
        · exact ⟨by decide, by decide⟩
        · cases hx
    · intro i hi
      match i, hi with
      | 0, _ => exact ⟨cell_of_row _ _ 0 _ _ (0, 0) hb, cell_of_row _ _ 1 _ _ (0, 0) hb⟩
      | 1, _ => exact ⟨cell_of_row _ _ 2 _ _ (0, 0) hb, cell_of_row _ _ 3 _ _ (0, 0) hb⟩
  have hsz : (w.alloc (.cells #[.int .u8 1, .int .u64 3, .int .u8 2, .int .u64 5] 67)).heap.size = w.heap.size + 1 := by simp
  have hb0 : Below w.heap.size w (w.alloc (.cells #[.int .u8 1, .int .u64 3, .int .u8 2, .int .u64 5] 67)) := (Below.refl _ w).alloc (Nat.le_refl _) _
  have N1 := Lib.hid (fun (W : World) (h : RowSl W (some ⟨w.heap.size, 0, none⟩) 2 L22) => (gnext22 (c := 2) h ok22 0 (by decide) 2 (by decide) (by decide) 2 (by decide) (by decide) (in22 2 0 (by decide)) nx1 (v := 8) (rb := true) (Or.inl (by decide)) : Calls Try.prog 28 #[.slice (some ⟨w.heap.size, 0, none⟩) 2 2, .int .i64 0, .int .u64 2, .int .u64 2] W _))
  have N2 := Lib.hid (fun (W : World) (h : RowSl W (some ⟨w.heap.size, 0, none⟩) 2 L22) => (gnext22 (c := 2) h ok22 0 (by decide) 2 (by decide) (by decide) 4 (by decide) (by decide) (in22 2 0 (by decide)) nx2 (v := 0) (rb := false) (Or.inr (Or.inr (by decide))) : Calls Try.prog 28 #[.slice (some ⟨w.heap.size, 0, none⟩) 2 2, .int .i64 0, .int .u64 2, .int .u64 4] W _))
  have O1 := Lib.hid (fun (W : World) (h : RowSl W (some ⟨w.heap.size, 0, none⟩) 2 L22) => (gopen22 (c := 2) h ok22 8 (by decide) (by decide) (in22 8 0 (by decide)) : Calls Try.prog 31 #[.slice (some ⟨w.heap.size, 0, none⟩) 2 2, .int .u64 8] W fun e w' => e = .returned (.int .u8 1) ∧ Below W.heap.size W w'))
  have O2 := Lib.hid (fun (W : World) (h : RowSl W (some ⟨w.heap.size, 0, none⟩) 2 L22) => (gopen22 (c := 2) h ok22 3 (by decide) (by decide) (in22 3 1 (by decide)) : Calls Try.prog 31 #[.slice (some ⟨w.heap.size, 0, none⟩) 2 2, .int .u64 3] W fun e w' => e = .returned (.int .u8 2) ∧ Below W.heap.size W w'))
  have RD := Lib.hid (fun (W : World) (h : RowSl W (some ⟨w.heap.size, 0, none⟩) 2 L22) => ((ground22 h 2 ok22) : Calls Try.prog 30 #[.slice (some ⟨w.heap.size, 0, none⟩) 2 2] W fun e w' => e = .returned (.int .u64 8) ∧ Below W.heap.size W w'))
  have HR := Lib.hid hrow
  clear hrow
  have HB0 := Lib.hid hb0
  clear hb0
  go_enter Try.func24, Try.ntmps24
  go_wp2_with fail
  refine (N1.out _ HR.out).mono ?_
  rintro e w1 ⟨rfl, hb1⟩
  have HR1 := Lib.hid (HR.out.below hb1)
  have HB1 := Lib.hid (HB0.out.trans (hb1.mono HB0.out.size))
  clear hb1
  go_wp2_with fail
  refine (N2.out _ HR1.out).mono ?_
  rintro e w2 ⟨rfl, hb2⟩
  have HR2 := Lib.hid (HR1.out.below hb2)
  have HB2 := Lib.hid (HB1.out.trans (hb2.mono HB1.out.size))
  clear hb2
  go_wp2_with fail
  refine (O1.out _ HR2.out).mono ?_
  rintro e w3 ⟨rfl, hb3⟩
  have HR3 := Lib.hid (HR2.out.below hb3)
  have HB3 := Lib.hid (HB2.out.trans (hb3.mono HB2.out.size))
  clear hb3
  go_wp2_with fail
  refine (O2.out _ HR3.out).mono ?_
  rintro e w4 ⟨rfl, hb4⟩
  have HR4 := Lib.hid (HR3.out.below hb4)
  have HB4 := Lib.hid (HB3.out.trans (hb4.mono HB3.out.size))
  clear hb4
  go_wp2_with fail
  refine (RD.out _ HR4.out).mono ?_
  rintro e w5 ⟨rfl, hb5⟩
  have HB5 := Lib.hid (HB4.out.trans (hb5.mono HB4.out.size))
  clear hb5
  go_wp2
  go_ret
  exact ⟨rfl, HB5.out⟩
end Go.Proofs.Ytmkgadndfiiacaa
