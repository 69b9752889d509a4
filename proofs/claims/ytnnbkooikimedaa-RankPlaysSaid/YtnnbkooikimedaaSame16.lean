/-
  Two rows of the same words are told the same. No condition.
-/
import Derived.Test.YtnnbkooikimedaaRankT
namespace Go.Proofs.Ytnnbkooikimedaa
set_option linter.unusedVariables false
set_option linter.unusedSimpArgs false
open Go.ChangeShapes Go.WideShapes Go.ChangeAt Go.RowKit
attribute [local go_sem] alloc_drewN setCell_drewN

section
variable {w : World}
theorem samenum16 {b1 b2 : Nat} {v1 v2 : Value} {bs : List Int} (h1 : U64s w b1 v1 bs) (h2 : U64s w b2 v2 bs) (hn : bs.length ≤ 100000) :
    Calls Try.prog 65 #[v1, v2] w fun e w' => e = .returned (.bool true) ∧ Below w.heap.size w w' := by
  obtain ⟨a1, c1, rfl, _, hc1⟩ := h1.form
  obtain ⟨a2, c2, rfl, _, hc2⟩ := h2.form
  have HC1 := Lib.hid hc1; have HC2 := Lib.hid hc2
  clear h1 h2 hc1 hc2
  go_enter Try.func65, Try.ntmps65
  go_wp2
  go_loopw [5] (fun x wr => ∃ k : Nat, k ≤ bs.length ∧ x = .int .i64 k ∧ Below w.heap.size w wr) (fun x _ => bs.length - (intOf x).toNat)
  case atStart => exact ⟨0, Nat.zero_le _, rfl, Below.refl _ _⟩
  case round =>
    obtain ⟨k, hk, rfl, hbw⟩ := hrel
    by_cases hlt : k < bs.length
    · obtain ⟨g, rfl, _, hg, cg, _⟩ := HC1.out k hlt
      obtain ⟨g2, rfl, _, hg2, cg2, _⟩ := HC2.out k hlt
      have c0 := (hbw.cell (p := ⟨g, k, none⟩) hg).trans cg
      have d0 := (hbw.cell (p := ⟨g2, k, none⟩) hg2).trans cg2
      clear cg cg2
      generalize bs.getD k 0 = f at *
      have x0 : (0 : Int) ≤ (k : Int) := by omega
      have x1 : (k : Int) < (bs.length : Int) := by omega
      go_wp2
      go_quiet (fail)
      go_wp2
      go_roundw
      case rel => exact ⟨k + 1, by omega, by go_num, below_drewN _ hbw⟩
      case measure => simp [intOf] <;> omega
    · go_wp2
      go_ret
      exact ⟨rfl, hbw⟩
end
end Go.Proofs.Ytnnbkooikimedaa
