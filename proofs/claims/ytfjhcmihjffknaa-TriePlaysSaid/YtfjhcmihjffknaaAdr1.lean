/-
  Layer 31: which prefixes are right, what they have, and which cover which, as the program tells it: for any numbers. No condition.
-/
import Derived.Test.YtfjhcmihjffknaaAdrM
import Derived.Test.YtfjhcmihjffknaaStr
import Derived.Test.YtfjhcmihjffknaaVal
import Derived.Test.YtfjhcmihjffknaaRows
import Derived.Laws.Externs
import Derived.Outline
import Derived.Lib.Hide
import Derived.Deep.RegionWith
import Derived.Deep.RegionHeld3
import Derived.BigQuiet
namespace Go.Proofs.Ytfjhcmihjffknaa
set_option linter.unusedVariables false
set_option linter.unusedSimpArgs false
open Go.ChangeShapes Go.WideShapes Go.ChangeAt Go.RowKit
attribute [local go_sem] alloc_drewN setCell_drewN

theorem mask_any (n : Int) (n0 : -9223372036854775808 ≤ n) (n1 : n ≤ 9223372036854775807) (w : World) :
    Calls Try.prog 87 #[.int .i64 n] w fun e w' => e = .returned (.int .u32 (mk31 n)) ∧ w' = w := by
  by_cases h32 : 32 < n
  · have e : mk31 n = 4294967295 := by
      unfold mk31 pw
      rw [show max 0 (min n 32) = 32 by omega]
      rfl
    rw [e]
    have h0 : (0 : Int) < 32 := by omega
    go_enter Try.func87, Try.ntmps87
    go_wp2
    go_ret
    exact ⟨rfl, rfl⟩
  · by_cases h0 : 0 < n
    · have e : 4294967295 * 2 ^ (32 - n).toNat % 4294967296 = mk31 n := by
        have := shl_mask (32 - n).toNat (by omega)
        rw [IntKind.wrap_u32] at this
        rw [this, mk31_at ⟨by omega, by omega⟩]
        rfl
      have k1 : IntKind.i64.wrap (32 - n) = 32 - n := by rw [IntKind.wrap_i64]; omega
      have k2 : 0 ≤ 32 - n := by omega
      have k3 : 32 - n ≤ 32 := by omega
      generalize mk31 n = M at *
      go_enter Try.func87, Try.ntmps87
      go_wp2
      go_ret
      exact ⟨rfl, rfl⟩
    · have e : mk31 n = 0 := by
        unfold mk31 pw
        rw [show max 0 (min n 32) = 0 by omega]
        rfl
      rw [e]
      go_enter Try.func87, Try.ntmps87
      go_wp2
      go_ret
      exact ⟨rfl, rfl⟩
theorem box2 {v : World} {B : Nat} {a n : Int} {T : TypeId} (h : v.heap[B]? = some (.cells #[.int .u32 a, .int .i64 n] T (0, 0))) : v.cell? ⟨B, 0, none⟩ = some (.int .u32 a) ∧ v.cell? ⟨B, 1, none⟩ = some (.int .i64 n) :=
  ⟨cell_of_row v B 0 _ _ (0, 0) h, cell_of_row v B 1 _ _ (0, 0) h⟩
set_option maxRecDepth 100000 in
theorem right_any (a n : Int) (a0 : 0 ≤ a) (a1 : a ≤ 4294967295) (n0 : -9223372036854775808 ≤ n) (n1 : n ≤ 9223372036854775807) (w : World) :
    Calls Try.prog 66 #[.agg #[.int .u32 a, .int .i64 n]] w fun e w' => e = .returned (.bool (decide (RtP a n))) ∧ Below w.heap.size w w' := by
  have SC := Lib.hid (fun (v : World) (h : Below (w.alloc (.cells #[.int .u32 a, .int .i64 n] 70)).heap.size (w.alloc (.cells #[.int .u32 a, .int .i64 n] 70)) v) => (box2 ((h.block _ (by simp)).trans (heap_alloc_new _ _)) : v.cell? ⟨w.heap.size, 0, none⟩ = some (.int .u32 a) ∧ v.cell? ⟨w.heap.size, 1, none⟩ = some (.int .i64 n)))
  by_cases h0 : 0 ≤ n
  · by_cases h1 : n ≤ 32
    · have MK := Lib.hid (fun W => mask_any n n0 n1 W)
      have e : bits .andNot .u32 a (mk31 n) = a % (pw n : Int) := by
        rw [mk31_at ⟨h0, h1⟩]
        exact andNot_mask _ (by omega) a a0 a1
      have D : decide (RtP a n) = (a % (pw n : Int) == 0) := by
        rw [Bool.eq_iff_iff, decide_eq_true_iff, beq_iff_eq]
        exact ⟨fun h => h.2, fun h => ⟨⟨h0, h1⟩, h⟩⟩
      rw [D]
      clear D
      generalize mk31 n = M at *
      generalize a % (pw n : Int) = R at *
      have g0 : n ≥ 0 := h0
      have d0 : decide (n ≥ 0) = true := decide_eq_true h0
      have d1 : decide (n ≤ 32) = true := decide_eq_true h1
      go_enter Try.func66, Try.ntmps66
      go_wp2
      go_region_held3 (fun v => v.cell? ⟨w.heap.size, 0, none⟩ = some (.int .u32 a) ∧ v.cell? ⟨w.heap.size, 1, none⟩ = some (.int .i64 n))
        ((first | exact SC.out _ (by (repeat' (first | (with_reducible exact Below.refl _ _) | (with_reducible refine below_drewN _ ?_) | (with_reducible refine Below.drew ?_))))))
        (first | (go_at_call 87; refine (MK.out _).mono ?_; rintro e' u' ⟨rfl, rfl⟩) | fail)
      go_wp2
      go_ret
      exact ⟨rfl, by (repeat' (first | (with_reducible refine below_drewN _ ?_) | (with_reducible refine Below.drew ?_) | (with_reducible exact (Below.refl _ w).alloc (Nat.le_refl _) _)))⟩
    · have D : decide (RtP a n) = false := decide_eq_false (fun h => h1 h.1.2)
      rw [D]
      have g0 : n ≥ 0 := h0
      have d0 : decide (n ≥ 0) = true := decide_eq_true h0
      have d1 : decide (n ≤ 32) = false := decide_eq_false h1
      have d2 : 32 < n := by omega
      go_enter Try.func66, Try.ntmps66
      go_wp2
      go_quiet (fail)
      go_wp2
      go_ret
      exact ⟨rfl, by (repeat' (first | (with_reducible refine below_drewN _ ?_) | (with_reducible refine Below.drew ?_) | (with_reducible exact (Below.refl _ w).alloc (Nat.le_refl _) _)))⟩
  · have D : decide (RtP a n) = false := decide_eq_false (fun h => h0 h.1.1)
    rw [D]
    have g0 : ¬ n ≥ 0 := h0
    have d0 : decide (n ≥ 0) = false := decide_eq_false h0
    have d2 : n < 0 := by omega
    go_enter Try.func66, Try.ntmps66
    go_wp2
    go_quiet (fail)
    go_wp2
    go_ret
    exact ⟨rfl, by (repeat' (first | (with_reducible refine below_drewN _ ?_) | (with_reducible refine Below.drew ?_) | (with_reducible exact (Below.refl _ w).alloc (Nat.le_refl _) _)))⟩
end Go.Proofs.Ytfjhcmihjffknaa
