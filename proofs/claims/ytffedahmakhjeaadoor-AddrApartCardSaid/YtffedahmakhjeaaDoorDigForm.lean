/-
  Package digits asks whether a text has a decimal's form. What lay below the heap's end stands. No condition but that texts are short.
-/
import Derived.Test.YtffedahmakhjeaaDoorDigRead
namespace Go.Proofs.YtffedahmakhjeaaDoor
set_option linter.unusedVariables false
set_option linter.unusedSimpArgs false
open Go.ChangeShapes Go.WideShapes Go.ChangeAt Go.RowKit
attribute [-go_sem] run_index_string binOp_string_eql binOp_string_neq run_string_add_if run_slice_string_from_if run_slice_string_to_if
attribute [local go_sem] index_bt add_fits slice_from slice_to eql_str neq_str alloc_drewN setCell_drewN

theorem str_empty (s : ByteArray) : decide (s = ⟨#[]⟩) = decide (s.size = 0) := by
  rw [Bool.eq_iff_iff, decide_eq_true_eq, decide_eq_true_eq]
  constructor
  · rintro rfl; rfl
  · intro h; exact str_ext h fun k hk => by omega
theorem str_nought (s : ByteArray) : decide (s = ⟨#[48]⟩) = decide (s.size = 1 ∧ bt s 0 = 48) := by
  rw [Bool.eq_iff_iff, decide_eq_true_eq, decide_eq_true_eq]
  constructor
  · rintro rfl; exact ⟨rfl, bt_one 48⟩
  · rintro ⟨h, h0⟩
    refine str_ext h fun k hk => ?_
    have : k = 0 := by omega
    subst this
    rw [show ((0 : Nat) : Int) = 0 from rfl, h0, bt_one]; rfl
/-- The trimming's outcome, as a letter. -/
theorem trim_let (s : ByteArray) (hs : s.size ≤ 1000000) (w : World) : ∃ T : ByteArray, (decide (T = ⟨#[]⟩) = true ↔ ∀ k : Nat, k < s.size → 48 ≤ bt s k ∧ bt s k ≤ 57) ∧ Hid (Calls Tryd.prog 58 #[.string s, .string ⟨#[48, 49, 50, 51, 52, 53, 54, 55, 56, 57]⟩] w fun e w' => e = .returned (.string T) ∧ Below w.heap.size w w') :=
  ⟨_, trimmed s, Lib.hid (trim_any s (by omega) w)⟩
theorem formed_any (s : ByteArray) (hs : s.size ≤ 1000000) (b : Bool) (hb : b = true ↔ Formed s) (w : World) :
    Calls Tryd.prog 48 #[.string s] w fun e w' => e = .returned (.bool b) ∧ Below w.heap.size w w' := by
  obtain ⟨T, hT, TR⟩ := trim_let s hs w
  by_cases h0 : s.size = 0
  · have e : b = false := by
      cases b with
      | false => rfl
      | true => have := (hb.1 rfl).1; omega
    have g : decide (s = ⟨#[]⟩) = true := by rw [str_empty]; simp [h0]
    rw [e]
    clear e hb hT TR h0
    go_enter Tryd.func48, Tryd.ntmps48
    go_wp2
    go_ret
    exact ⟨rfl, Below.refl _ _⟩
  · have g : decide (s = ⟨#[]⟩) = false := by rw [str_empty]; simp [h0]
    by_cases h1 : ∀ k : Nat, k < s.size → 48 ≤ bt s k ∧ bt s k ≤ 57
    · have gT : decide (T = ⟨#[]⟩) = true := hT.2 h1
      have hl : 0 < s.size := by omega
      by_cases h2 : bt s 0 = 48
      · have g2 : (bt s 0 == 48) = true := by simp [h2]
        have e : decide (s = ⟨#[48]⟩) = b := by
          rw [str_nought, Bool.eq_iff_iff, hb, decide_eq_true_eq]
          constructor
          · rintro ⟨a1, a2⟩; exact ⟨hl, h1, fun h => by omega⟩
          · rintro ⟨a1, a2, a3⟩; exact ⟨by by_cases h : 1 < s.size; exact absurd h2 (a3 h); omega, h2⟩
        clear hb hT h0 h1
        go_enter Tryd.func48, Tryd.ntmps48
        go_wp2_with fail
        refine TR.out.mono ?_
        rintro e1 w1 ⟨rfl, b1⟩
        go_wp2
        go_ret
        exact ⟨rfl, b1⟩
      · have g2 : (bt s 0 == 48) = false := by simp [h2]
        have e : b = true := hb.2 ⟨hl, h1, fun _ => h2⟩
        rw [e]
        clear hb hT h0 h1 e
        go_enter Tryd.func48, Tryd.ntmps48
        go_wp2_with fail
        refine TR.out.mono ?_
        rintro e1 w1 ⟨rfl, b1⟩
        go_wp2
        go_ret
        exact ⟨rfl, b1⟩
    · have gT : decide (T = ⟨#[]⟩) = false := by
        cases h : decide (T = ⟨#[]⟩) with
        | false => rfl
        | true => exact absurd (hT.1 h) h1
      have e : b = false := by
        cases b with
        | false => rfl
        | true => exact absurd (hb.1 rfl).2.1 h1
      rw [e]
      clear hb hT h0 h1 e
      go_enter Tryd.func48, Tryd.ntmps48
      go_wp2_with fail
      refine TR.out.mono ?_
      rintro e1 w1 ⟨rfl, b1⟩
      go_wp2
      go_ret
      exact ⟨rfl, b1⟩
end Go.Proofs.YtffedahmakhjeaaDoor
