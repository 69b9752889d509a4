/-
  The law of readings of layer 3, walked: true for any text. The package's variables hold what they are laid with.
-/
import Derived.Test.YtdeehklegeeanaaDoorDigLives
namespace Go.Proofs.YtdeehklegeeanaaDoor
set_option linter.unusedVariables false
set_option linter.unusedSimpArgs false
open Go.ChangeShapes Go.WideShapes Go.ChangeAt Go.RowKit
attribute [-go_sem] run_index_string binOp_string_eql binOp_string_neq run_string_add_if run_slice_string_from_if run_slice_string_to_if
attribute [local go_sem] index_bt add_fits slice_from slice_to eql_str neq_str alloc_drewN setCell_drewN

set_option maxHeartbeats 1000000 in
theorem walk_digitsReads (s : ByteArray) (hs : s.size ≤ maxLen) (w : World) (h : Held3 w) :
    Calls Tryd.prog 3 #[.string s] w fun e w' => e = .returned (.bool true) ∧ Below w.heap.size w w' := by
  unfold maxLen at hs
  by_cases hn : 1000 < s.size
  · have LV := Lib.hid (lives3 w h)
    clear h
    go_enter Tryd.func3, Tryd.ntmps3
    go_wp2_with fail
    refine LV.out.mono ?_
    rintro e w5 ⟨rfl, h5⟩
    go_wp2
    go_ret
    exact ⟨rfl, h5⟩
  · have H := Lib.hid h
    have G1 := Lib.hid (get3 s (by omega) w h)
    have R1 := Lib.hid (fun w => refread_any s (by unfold maxLen; omega) w)
    have R2 := Lib.hid (fun w => refreadunit_any s (by unfold maxLen; omega) w)
    clear h
    generalize rd s = q at *
    generalize hr : rdu s = r at *
    obtain ⟨q1, q2⟩ := q
    obtain ⟨r1, r2⟩ := r
    have HR := Lib.hid hr
    clear hr
    go_enter Tryd.func3, Tryd.ntmps3
    go_wp2_with fail
    refine G1.out.mono ?_
    rintro e w1 ⟨rfl, b1⟩
    go_wp2_with fail
    refine (R1.out _).mono ?_
    rintro e w' ⟨rfl, rfl⟩
    have H1 := Lib.hid (H.out.below b1)
    have G2 := Lib.hid (getu3 s (by omega) w1 H1.out)
    rw [HR.out] at G2
    go_wp2_with fail
    refine G2.out.mono ?_
    rintro e w2 ⟨rfl, b2⟩
    go_wp2_with fail
    refine (R2.out _).mono ?_
    rintro e w' ⟨rfl, rfl⟩
    have LV := Lib.hid (lives3 w2 (H1.out.below b2))
    go_wp2_with fail
    refine LV.out.mono ?_
    rintro e w5 ⟨rfl, b5⟩
    go_wp2
    go_ret
    exact ⟨rfl, (b1.trans (b2.mono b1.size)).trans (b5.mono (Nat.le_trans b1.size b2.size))⟩
end Go.Proofs.YtdeehklegeeanaaDoor
