/-
  Package trie: a tree of nodes in memory; where the node of a prefix is, one step. No condition but that the node stands.
-/
import Derived.Test.YtfjhcmihjffknaaTr1
import Derived.Test.YtfjhcmihjffknaaMl8
import Derived.Deep.RegionHeld3
import Derived.Deep.RegionWith
namespace Go.Proofs.Ytfjhcmihjffknaa
set_option linter.unusedVariables false
set_option linter.unusedSimpArgs false
open Go.ChangeShapes Go.WideShapes Go.ChangeAt Go.RowKit
attribute [local go_sem] alloc_drewN setCell_drewN

theorem brn_bit (n a : Int) : brn n a = 0 ∨ brn n a = 1 := by unfold brn; omega
/-- A node in memory. -/
def NodeAt (w : World) (B : Nat) (b m : Int) (th : Bool) (y : Int) (vl vr : Value) : Prop :=
  w.heap[B]? = some (.cells #[.int .u32 b, .int .i64 m, .bool th, .int .i64 y, vl, vr] 126 (0, 0))
theorem NodeAt.cell {w : World} {B : Nat} {b m : Int} {th : Bool} {y : Int} {vl vr : Value} (h : NodeAt w B b m th y vl vr) : w.cell? ⟨B, 0, none⟩ = some (.int .u32 b) ∧ w.cell? ⟨B, 1, none⟩ = some (.int .i64 m) ∧ w.cell? ⟨B, 2, none⟩ = some (.bool th) ∧ w.cell? ⟨B, 3, none⟩ = some (.int .i64 y) ∧ w.cell? ⟨B, 4, none⟩ = some vl ∧ w.cell? ⟨B, 5, none⟩ = some vr :=
  ⟨cell_of_row w B 0 _ _ (0, 0) h, cell_of_row w B 1 _ _ (0, 0) h, cell_of_row w B 2 _ _ (0, 0) h, cell_of_row w B 3 _ _ (0, 0) h, cell_of_row w B 4 _ _ (0, 0) h, cell_of_row w B 5 _ _ (0, 0) h⟩
theorem NodeAt.below {w w' : World} {B : Nat} {b m : Int} {th : Bool} {y : Int} {vl vr : Value} (h : NodeAt w B b m th y vl vr) (hb : Below w.heap.size w w') : NodeAt w' B b m th y vl vr := (hb.block B (Array.getElem?_eq_some_iff.1 h).1).trans h
section
variable {w : World} {B : Nat} {b m : Int} {th : Bool} {y : Int} {vl vr : Value} {a n : Int}
set_option maxRecDepth 100000 in
set_option maxHeartbeats 2000000 in
theorem at_nil (a n : Int) (w : World) : Calls Try.prog 84 #[.pointer none, .agg #[.int .u32 a, .int .i64 n]] w fun e w' => e = .returned (.pointer none) ∧ Below w.heap.size w w' := by
  have HB := Lib.hid ((Below.refl _ w).alloc (Nat.le_refl _) (.cells #[.int .u32 a, .int .i64 n] 70))
  go_enter Try.func84, Try.ntmps84
  go_wp2
  go_quiet (fail)
  go_wp2
  go_ret
  exact ⟨rfl, below_drewN _ HB.out⟩
set_option maxRecDepth 100000 in
set_option maxHeartbeats 2000000 in
theorem at_not (h : NodeAt w B b m th y vl vr) (hb : 0 ≤ b ∧ b ≤ 4294967295) (hm : 0 ≤ m ∧ m ≤ 32) (ha : 0 ≤ a ∧ a ≤ 4294967295) (hn : -9223372036854775808 ≤ n ∧ n ≤ 9223372036854775807) (hc : ¬ CvP b m a n) : Calls Try.prog 84 #[.pointer (some ⟨B, 0, none⟩), .agg #[.int .u32 a, .int .i64 n]] w fun e w' => e = .returned (.pointer none) ∧ Below w.heap.size w w' := by
  have HB := Lib.hid ((Below.refl _ w).alloc (Nat.le_refl _) (.cells #[.int .u32 a, .int .i64 n] 70))
  have HP := Lib.hid (heap_alloc_new w (.cells #[.int .u32 a, .int .i64 n] 70))
  have HN := Lib.hid (h.below HB.out)
  have CV := Lib.hid (fun (W : World) => (show Calls Try.prog 88 #[.agg #[.int .u32 b, .int .i64 m], .agg #[.int .u32 a, .int .i64 n]] W fun e w' => e = .returned (.bool false) ∧ Below W.heap.size W w' from by
    have c := covers_any b m hb.1 hb.2 (by omega) (by omega) a n ha.1 ha.2 hn.1 hn.2 W
    rw [decide_eq_false hc] at c
    exact c))
  obtain ⟨c0, c1, -, -, -, -⟩ := HN.out.cell
  obtain ⟨p0, p1⟩ := box2 HP.out
  have SZ := Lib.hid (show w.heap.size < (w.alloc (.cells #[.int .u32 a, .int .i64 n] 70)).heap.size by simp)
  clear h
  go_enter Try.func84, Try.ntmps84
  go_wp2
  generalize w.alloc (.cells #[.int .u32 a, .int .i64 n] 70) = W at *
  go_region_held3 (fun v => v.cell? ⟨B, 0, none⟩ = some (.int .u32 b) ∧ v.cell? ⟨B, 1, none⟩ = some (.int .i64 m) ∧ v.cell? ⟨w.heap.size, 0, none⟩ = some (.int .u32 a) ∧ v.cell? ⟨w.heap.size, 1, none⟩ = some (.int .i64 n)) ((first | exact KP | exact ⟨c0, c1, p0, p1⟩)) (first
    | (go_at_call 88; refine (CV.out _).mono ?_; rintro e w1 ⟨rfl, b1⟩; have b1 : Below W.heap.size W w1 := ⟨b1.os, b1.tape, b1.output, b1.size, b1.block⟩; have B1 := Lib.hid b1; have KP : w1.cell? ⟨B, 0, none⟩ = some (.int .u32 b) ∧ w1.cell? ⟨B, 1, none⟩ = some (.int .i64 m) ∧ w1.cell? ⟨w.heap.size, 0, none⟩ = some (.int .u32 a) ∧ w1.cell? ⟨w.heap.size, 1, none⟩ = some (.int .i64 n) := by { obtain ⟨d0, d1, -, -, -, -⟩ := (HN.out.below b1).cell; obtain ⟨q0, q1⟩ := box2 ((b1.block _ SZ.out).trans HP.out); exact ⟨d0, d1, q0, q1⟩ }; clear b1)
    | fail)
  go_wp2
  go_ret
  exact ⟨rfl, HB.out.trans (B1.out.mono HB.out.size)⟩
set_option maxRecDepth 100000 in
set_option maxHeartbeats 2000000 in
theorem at_this (h : NodeAt w B b m th y vl vr) (hb : 0 ≤ b ∧ b ≤ 4294967295) (hm : 0 ≤ m ∧ m ≤ 32) (hc : CvP b m b m) : Calls Try.prog 84 #[.pointer (some ⟨B, 0, none⟩), .agg #[.int .u32 b, .int .i64 m]] w fun e w' => e = .returned (.pointer (some ⟨B, 0, none⟩)) ∧ Below w.heap.size w w' := by
  have HB := Lib.hid ((Below.refl _ w).alloc (Nat.le_refl _) (.cells #[.int .u32 b, .int .i64 m] 70))
  have HP := Lib.hid (heap_alloc_new w (.cells #[.int .u32 b, .int .i64 m] 70))
  have HN := Lib.hid (h.below HB.out)
  have CV := Lib.hid (fun (W : World) => (show Calls Try.prog 88 #[.agg #[.int .u32 b, .int .i64 m], .agg #[.int .u32 b, .int .i64 m]] W fun e w' => e = .returned (.bool true) ∧ Below W.heap.size W w' from by
    have c := covers_any b m hb.1 hb.2 (by omega) (by omega) b m hb.1 hb.2 (by omega) (by omega) W
    rw [decide_eq_true hc] at c
    exact c))
  obtain ⟨c0, c1, -, -, -, -⟩ := HN.out.cell
  obtain ⟨p0, p1⟩ := box2 HP.out
  have SZ := Lib.hid (show w.heap.size < (w.alloc (.cells #[.int .u32 b, .int .i64 m] 70)).heap.size by simp)
  clear h
  go_enter Try.func84, Try.ntmps84
  go_wp2
  generalize w.alloc (.cells #[.int .u32 b, .int .i64 m] 70) = W at *
  go_region_held3 (fun v => v.cell? ⟨B, 0, none⟩ = some (.int .u32 b) ∧ v.cell? ⟨B, 1, none⟩ = some (.int .i64 m) ∧ v.cell? ⟨w.heap.size, 0, none⟩ = some (.int .u32 b) ∧ v.cell? ⟨w.heap.size, 1, none⟩ = some (.int .i64 m)) ((first | exact KP | exact ⟨c0, c1, p0, p1⟩)) (first
    | (go_at_call 88; refine (CV.out _).mono ?_; rintro e w1 ⟨rfl, b1⟩; have b1 : Below W.heap.size W w1 := ⟨b1.os, b1.tape, b1.output, b1.size, b1.block⟩; have B1 := Lib.hid b1; have KP : w1.cell? ⟨B, 0, none⟩ = some (.int .u32 b) ∧ w1.cell? ⟨B, 1, none⟩ = some (.int .i64 m) ∧ w1.cell? ⟨w.heap.size, 0, none⟩ = some (.int .u32 b) ∧ w1.cell? ⟨w.heap.size, 1, none⟩ = some (.int .i64 m) := by { obtain ⟨d0, d1, -, -, -, -⟩ := (HN.out.below b1).cell; obtain ⟨q0, q1⟩ := box2 ((b1.block _ SZ.out).trans HP.out); exact ⟨d0, d1, q0, q1⟩ }; clear b1)
    | fail)
  obtain ⟨k0, k1, k2, k3⟩ := KP
  go_wp2
  go_quiet (fail)
  go_wp2
  go_ret
  exact ⟨rfl, below_drewN _ (HB.out.trans (B1.out.mono HB.out.size))⟩
end
end Go.Proofs.Ytfjhcmihjffknaa
