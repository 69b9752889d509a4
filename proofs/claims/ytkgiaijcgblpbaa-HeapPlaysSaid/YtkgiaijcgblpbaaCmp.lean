/-
  Package cmp for this seat: Compare of two words, the first of two numbers that is not nought. What lay below the heap's end stands. No condition.
-/
import Derived.Test.YtkgiaijcgblpbaaRows
import Derived.Test.YtkgiaijcgblpbaaBase
import Derived.Outline
namespace Go.Proofs.Ytkgiaijcgblpbaa
set_option linter.unusedVariables false
set_option linter.unusedSimpArgs false
open Go.ChangeShapes Go.WideShapes Go.ChangeAt Go.RowKit
attribute [local go_sem] alloc_drewN setCell_drewN

def cmpI (a b : Int) : Int := if a < b then -1 else if b < a then 1 else 0
theorem nan_no (a : Int) (w : World) :
    Calls Try.prog 134 #[.int .u64 a] w fun e w' => e = .returned (.bool false) ∧ w' = w := by
  go_enter Try.func134, Try.ntmps134
  go_wp2
  go_ret
  exact ⟨by simp, rfl⟩
theorem compare_u64 (a b : Int) (w : World) :
    Calls Try.prog 108 #[.int .u64 a, .int .u64 b] w fun e w' => e = .returned (.int .i64 (cmpI a b)) ∧ w' = w := by
  have NN := Lib.hid (fun a w => nan_no a w)
  unfold cmpI
  by_cases h : a < b
  · rw [if_pos h]
    go_enter Try.func108, Try.ntmps108
    go_wp2_with (go_at_call 134; refine (NN.out _ _).mono ?_; rintro e w' ⟨rfl, rfl⟩)
    go_ret
    exact ⟨rfl, rfl⟩
  · rw [if_neg h]
    by_cases h2 : b < a
    · rw [if_pos h2]
      go_enter Try.func108, Try.ntmps108
      go_wp2_with (go_at_call 134; refine (NN.out _ _).mono ?_; rintro e w' ⟨rfl, rfl⟩)
      go_ret
      exact ⟨rfl, rfl⟩
    · rw [if_neg h2]
      go_enter Try.func108, Try.ntmps108
      go_wp2_with (go_at_call 134; refine (NN.out _ _).mono ?_; rintro e w' ⟨rfl, rfl⟩)
      go_ret
      exact ⟨rfl, rfl⟩
theorem or_two (a b : Int) (g : Nat) (w : World) (h0 : w.cell? ⟨g, 0, none⟩ = some (.int .i64 a)) (h1 : w.cell? ⟨g, 1, none⟩ = some (.int .i64 b)) :
    Calls Try.prog 107 #[.slice (some ⟨g, 0, none⟩) 2 2] w fun e w' => e = .returned (.int .i64 (if a = 0 then b else a)) ∧ w' = w := by
  by_cases ha : a = 0
  · rw [if_pos ha]
    subst ha
    by_cases hb : b = 0
    · subst hb
      go_enter Try.func107, Try.ntmps107
      go_wp2
      refine wp_loop_rounds 3 ?_
      rw [rounds_succ]
      go_wp2
      rw [rounds_succ]
      go_wp2
      rw [rounds_succ]
      go_wp2
      go_ret
      exact ⟨rfl, rfl⟩
    · go_enter Try.func107, Try.ntmps107
      go_wp2
      refine wp_loop_rounds 2 ?_
      rw [rounds_succ]
      go_wp2
      rw [rounds_succ]
      go_wp2
      go_ret
      exact ⟨rfl, rfl⟩
  · rw [if_neg ha]
    go_enter Try.func107, Try.ntmps107
    go_wp2
    refine wp_loop_rounds 1 ?_
    rw [rounds_succ]
    go_wp2
    go_ret
    exact ⟨rfl, rfl⟩
theorem or_fresh (a b : Int) (w : World) (o1 o2 : Obj) :
    Calls Try.prog 107 #[.slice (some ⟨w.heap.size + 1 + 1, 0, none⟩) 2 2] (((w.alloc o1).alloc o2).alloc (.cells #[.int .i64 a, .int .i64 b] 3)).drew fun e w' => e = .returned (.int .i64 (if a = 0 then b else a)) ∧ w' = (((w.alloc o1).alloc o2).alloc (.cells #[.int .i64 a, .int .i64 b] 3)).drew := by
  have hs : ((w.alloc o1).alloc o2).heap.size = w.heap.size + 1 + 1 := by simp
  have h : ∀ (W : World) (x y : Value) (t : TypeId), ((W.alloc (.cells #[x, y] t)).drew).cell? ⟨W.heap.size, 0, none⟩ = some x ∧ ((W.alloc (.cells #[x, y] t)).drew).cell? ⟨W.heap.size, 1, none⟩ = some y := fun W x y t =>
    ⟨(World.cell?_alloc_mark W #[x, y] t (0, 0) 0).trans rfl, (World.cell?_alloc_mark W #[x, y] t (0, 0) 1).trans rfl⟩
  have h2 := h ((w.alloc o1).alloc o2) (.int .i64 a) (.int .i64 b) 3
  rw [hs] at h2
  exact or_two a b _ _ h2.1 h2.2
end Go.Proofs.Ytkgiaijcgblpbaa
