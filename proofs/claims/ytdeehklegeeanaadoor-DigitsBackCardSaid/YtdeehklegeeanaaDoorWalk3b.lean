/-
  The law of the way back of layer 3, walked: true for any number and any text. The package's variables hold what they are laid with.
-/
import Derived.Test.YtdeehklegeeanaaDoorDigLives
import Derived.Test.YtdeehklegeeanaaDoorDigMath
namespace Go.Proofs.YtdeehklegeeanaaDoor
set_option linter.unusedVariables false
set_option linter.unusedSimpArgs false
open Go.ChangeShapes Go.WideShapes Go.ChangeAt Go.RowKit
attribute [-go_sem] run_index_string binOp_string_eql binOp_string_neq run_string_add_if run_slice_string_from_if run_slice_string_to_if
attribute [local go_sem] index_bt add_fits slice_from slice_to eql_str neq_str alloc_drewN setCell_drewN

theorem dec_size (n : Int) : (dec n).size ≤ 20 := (decN_pos 19 n).2
theorem pu_size (n : Int) : (pu n).size ≤ 21 := by
  have h := dec_size
  unfold pu
  repeat' split
  all_goals first | (rw [ByteArray.size_append]; have := h (n / 1000000000); have : (⟨#[71]⟩ : ByteArray).size = 1 := rfl; omega) | (rw [ByteArray.size_append]; have := h (n / 1000000); have : (⟨#[77]⟩ : ByteArray).size = 1 := rfl; omega) | (rw [ByteArray.size_append]; have := h (n / 1000); have : (⟨#[75]⟩ : ByteArray).size = 1 := rfl; omega) | (have := h n; omega) | (have := h 0; omega)
set_option maxRecDepth 100000 in
set_option maxHeartbeats 2000000 in
theorem walk_digitsBack (n : Int) (n0 : 0 ≤ n) (n1 : n ≤ 18446744073709551615) (s : ByteArray) (hs : s.size ≤ maxLen) (w : World) (h : Held3 w) :
    Calls Tryd.prog 4 #[.int .u64 n, .string s] w fun e w' => e = .returned (.bool true) ∧ Below w.heap.size w w' := by
  unfold maxLen at hs
  by_cases hn : 1000 < s.size
  · have LV := Lib.hid (lives3 w h)
    clear h
    go_enter Tryd.func4, Tryd.ntmps4
    go_wp2_with fail
    refine LV.out.mono ?_
    rintro e w5 ⟨rfl, h5⟩
    go_wp2
    go_ret
    exact ⟨rfl, h5⟩
  · have H := Lib.hid h
    clear h
    have PT := Lib.hid (fun w (h : Held3 w) => put3 n n0 n1 w h)
    have PU := Lib.hid (fun w (h : Held3 w) => putu3 n n0 n1 w h)
    have GD := Lib.hid (fun w (h : Held3 w) => get3 (dec n) (by have := dec_size n; omega) w h)
    have GU := Lib.hid (fun w (h : Held3 w) => getu3 (pu n) (by have := pu_size n; omega) w h)
    rw [rd_dec n n0 n1] at GD
    rw [rdu_pu n n0 n1] at GU
    have RP := Lib.hid (fun w => refput_any n n0 n1 w)
    have RU := Lib.hid (fun w => refputunit_any n n0 n1 w)
    have GS := Lib.hid (fun w (h : Held3 w) => get3 s (by omega) w h)
    have BK := Lib.hid (rd_back s)
    generalize dec n = d at *
    generalize pu n = u at *
    generalize rd s = q at *
    obtain ⟨m, g⟩ := q
    go_enter Tryd.func4, Tryd.ntmps4
    go_wp2_with fail
    refine (PT.out _ H.out).mono ?_
    rintro e w1 ⟨rfl, b1⟩
    have H1 := Lib.hid (H.out.below b1)
    have HS := Lib.hid (show Below w.heap.size w w1 from b1)
    clear H
    go_wp2_with fail
    refine (GD.out _ H1.out).mono ?_
    rintro e w2 ⟨rfl, b2⟩
    have H2 := Lib.hid (H1.out.below b2)
    have HS2 := Lib.hid (HS.out.trans (b2.mono HS.out.size))
    clear H1 HS b1 b2
    go_wp2_with fail
    refine (PU.out _ H2.out).mono ?_
    rintro e w3 ⟨rfl, b3⟩
    have H3 := Lib.hid (H2.out.below b3)
    have HS3 := Lib.hid (HS2.out.trans (b3.mono HS2.out.size))
    clear H2 HS2 b3
    go_wp2_with fail
    refine (GU.out _ H3.out).mono ?_
    rintro e w4 ⟨rfl, b4⟩
    have H4 := Lib.hid (H3.out.below b4)
    have HS4 := Lib.hid (HS3.out.trans (b4.mono HS3.out.size))
    clear H3 HS3 b4
    go_wp2_with fail
    refine (PT.out _ H4.out).mono ?_
    rintro e w5 ⟨rfl, b5⟩
    have H5 := Lib.hid (H4.out.below b5)
    have HS5 := Lib.hid (HS4.out.trans (b5.mono HS4.out.size))
    clear H4 HS4 b5
    go_wp2_with fail
    refine (RP.out _).mono ?_
    rintro e w5a ⟨rfl, b5a⟩
    have H5a := Lib.hid (H5.out.below b5a)
    have HS5a := Lib.hid (HS5.out.trans (b5a.mono HS5.out.size))
    clear H5 HS5 b5a
    go_wp2_with fail
    refine (PU.out _ H5a.out).mono ?_
    rintro e w6 ⟨rfl, b6⟩
    have H6 := Lib.hid (H5a.out.below b6)
    have HS6 := Lib.hid (HS5a.out.trans (b6.mono HS5a.out.size))
    clear H5a HS5a b6
    go_wp2_with fail
    refine (RU.out _).mono ?_
    rintro e w6a ⟨rfl, b6a⟩
    have H6a := Lib.hid (H6.out.below b6a)
    have HS6a := Lib.hid (HS6.out.trans (b6a.mono HS6.out.size))
    clear H6 HS6 b6a
    go_wp2_with fail
    refine (GS.out _ H6a.out).mono ?_
    rintro e w7 ⟨rfl, b7⟩
    have H7 := Lib.hid (H6a.out.below b7)
    have HS7 := Lib.hid (HS6a.out.trans (b7.mono HS6a.out.size))
    clear H6a HS6a b7
    by_cases hg : g = 0
    · subst hg
      obtain ⟨hm, m0, m1⟩ := BK.out m rfl
      have PM := Lib.hid (put3 m m0 m1 w7 H7.out)
      rw [hm] at PM
      clear hm
      go_wp2_with fail
      refine PM.out.mono ?_
      rintro e w8 ⟨rfl, b8⟩
      have LV := Lib.hid (lives3 w8 (H7.out.below b8))
      have HS8 := Lib.hid (HS7.out.trans (b8.mono HS7.out.size))
      clear b8
      go_wp2_with fail
      refine LV.out.mono ?_
      rintro e w9 ⟨rfl, b9⟩
      go_wp2
      go_ret
      exact ⟨rfl, HS8.out.trans (b9.mono HS8.out.size)⟩
    · have hg' : (g != 0) = true := by simp [hg]
      clear hg BK
      have LV := Lib.hid (lives3 w7 H7.out)
      go_wp2_with fail
      refine LV.out.mono ?_
      rintro e w9 ⟨rfl, b9⟩
      go_wp2
      go_ret
      exact ⟨rfl, HS7.out.trans (b9.mono HS7.out.size)⟩
end Go.Proofs.YtdeehklegeeanaaDoor
