/-
  The law's own 'same' of layer 12: two rows of items are alike. What lay below the heap's end stands. No condition.
-/
import Derived.Test.YtkgiaijcgblpbaaSame9
namespace Go.Proofs.Ytkgiaijcgblpbaa
set_option linter.unusedVariables false
set_option linter.unusedSimpArgs false
open Go.ChangeShapes Go.WideShapes Go.ChangeAt Go.RowKit
attribute [local go_sem] alloc_drewN setCell_drewN

set_option maxRecDepth 100000 in
set_option maxHeartbeats 1000000 in
theorem same_its12 (base base2 : Nat) (v v2 : Value) (xs : List (Int × Int)) (hn : xs.length ≤ 1000000) (w : World) (h : Hts w base v xs) (h2 : Its w base2 v2 xs) :
    Calls Try.prog 89 #[v, v2] w fun e w' => e = .returned (.bool true) ∧ Below w.heap.size w w' := by
  obtain ⟨a, c, rfl, _, hc⟩ := h.form
  obtain ⟨a2, c2, rfl, _, hc2⟩ := h2.form
  have HC := Lib.hid hc; have HC2 := Lib.hid hc2
  clear h h2 hc hc2
  go_enter Try.func89, Try.ntmps89
  go_wp2
  go_loopw [13] (fun x wr => ∃ k : Nat, k ≤ xs.length ∧ x = .int .i64 k ∧ Below w.heap.size w wr) (fun x _ => xs.length - (intOf x).toNat)
  case atStart => exact ⟨0, Nat.zero_le _, rfl, Below.refl _ _⟩
  case round =>
    obtain ⟨k, hk, rfl, hb⟩ := hrel
    by_cases hlt : k < xs.length
    · obtain ⟨g, rfl, hg, c0, c1⟩ := HC.out k hlt
      obtain ⟨g2, rfl, hg2, d0, d1⟩ := HC2.out k hlt
      have c0 := (hb.cell (p := ⟨g, k * 2, none⟩) hg).trans c0
      have c1 := (hb.cell (p := ⟨g, k * 2 + 1, none⟩) hg).trans c1
      have d0 := (hb.cell (p := ⟨g2, k * 2, none⟩) hg2).trans d0
      have d1 := (hb.cell (p := ⟨g2, k * 2 + 1, none⟩) hg2).trans d1
      have k0 : (0 : Int) ≤ k := by omega
      have k1 : (k : Int) < xs.length := by omega
      have HB := Lib.hid hb
      clear hb
      generalize xs[k] = x at *
      obtain ⟨x1, x2⟩ := x
      dsimp only at c0 c1 d0 d1
      go_wp2
      go_quiet (fail)
      go_wp2
      go_roundw
      case rel => exact ⟨k + 1, by omega, by go_num, below_drewN _ HB.out⟩
      case measure => simp [intOf] <;> omega
    · obtain rfl : k = xs.length := by omega
      go_wp2
      go_ret
      exact ⟨rfl, hb⟩
end Go.Proofs.Ytkgiaijcgblpbaa

