/-
  The document's answer for layer 3: a number's text with its unit. What lay below the heap's end stands. No condition but that numbers are words.
-/
import Derived.Test.YtdeehklegeeanaaDoorDigPutU
import Derived.Test.YtdeehklegeeanaaDoorDigRef1
import Derived.Deep.RegionWith
namespace Go.Proofs.YtdeehklegeeanaaDoor
set_option linter.unusedVariables false
set_option linter.unusedSimpArgs false
open Go.ChangeShapes Go.WideShapes Go.ChangeAt Go.RowKit
attribute [-go_sem] run_index_string binOp_string_eql binOp_string_neq run_string_add_if run_slice_string_from_if run_slice_string_to_if
attribute [local go_sem] index_bt add_fits slice_from slice_to eql_str neq_str alloc_drewN setCell_drewN

theorem unit_G (w : World) : Calls Tryd.prog 41 #[.int .u8 71] w fun e w' => e = .returned (.int .u64 1000000000) ∧ w = w' := unit_any 71 (by omega) (by omega) w
theorem unit_M (w : World) : Calls Tryd.prog 41 #[.int .u8 77] w fun e w' => e = .returned (.int .u64 1000000) ∧ w = w' := unit_any 77 (by omega) (by omega) w
theorem unit_K (w : World) : Calls Tryd.prog 41 #[.int .u8 75] w fun e w' => e = .returned (.int .u64 1000) ∧ w = w' := unit_any 75 (by omega) (by omega) w
theorem sg_bt : bt ⟨#[71, 77, 75]⟩ 0 = 71 ∧ bt ⟨#[71, 77, 75]⟩ 1 = 77 ∧ bt ⟨#[71, 77, 75]⟩ 2 = 75 := ⟨by decide +kernel, by decide +kernel, by decide +kernel⟩
theorem sg_ext : (⟨#[71, 77, 75]⟩ : ByteArray).extract 0 1 = ⟨#[71]⟩ ∧ (⟨#[71, 77, 75]⟩ : ByteArray).extract 1 2 = ⟨#[77]⟩ ∧ (⟨#[71, 77, 75]⟩ : ByteArray).extract 2 3 = ⟨#[75]⟩ := ⟨by decide +kernel, by decide +kernel, by decide +kernel⟩
set_option maxRecDepth 100000 in
theorem rpu_G (n : Int) (n0 : 0 < n) (n1 : n ≤ 18446744073709551615)  (h : n % 1000000000 = 0) (w : World) :
    Calls Tryd.prog 17 #[.int .u64 n] w fun e w' => e = .returned (.string (dec (n / 1000000000) ++ ⟨#[71]⟩)) ∧ Below w.heap.size w w' := by
  have g71 : (n % 1000000000 == 0) = true := by simp [h]
  have FT := dec_fits (n / 1000000000) 71
  have k1 : IntKind.i64.wrap (0 + 1) = 1 := by rw [IntKind.wrap_i64]; omega
  have k2 : IntKind.i64.wrap 1 = 1 := by rw [IntKind.wrap_i64]; omega
  have gq : IntKind.u64.wrap (n.tdiv 1000000000) = n / 1000000000 := by rw [IntKind.wrap_u64, Int.tdiv_eq_ediv_of_nonneg (by omega)]; omega
  have PT := Lib.hid (fun w => refput_any (n / 1000000000) (by omega) (by omega) w)
  obtain ⟨e0, e1, e2⟩ := sg_bt
  obtain ⟨x0, x1, x2⟩ := sg_ext
  go_enter Tryd.func17, Tryd.ntmps17
  go_wp2
  refine wp_loop_rounds 4 ?_
  rw [rounds_succ]
  go_wp2_with fail
  (try rw [e0])
  refine (unit_G _).mono ?_
  rintro ee ww ⟨rfl, rfl⟩
  go_wp2
  go_region_with (first | (go_at_call 41; (try rw [e0]); refine (unit_G _).mono ?_; rintro ee w2 ⟨rfl, rfl⟩) | (go_at_call 16; (try rw [gq]); refine (PT.out _).mono ?_; rintro ee w3 ⟨rfl, h1⟩))
  all_goals (go_wp2; go_ret; exact ⟨rfl, Below.go (by repeat' (first | (with_reducible exact Below.refl _ _) | (with_reducible assumption) | (with_reducible refine Below.alloc ?_ ?_ _) | (with_reducible refine below_drewN _ ?_) | (with_reducible refine Below.drew ?_) | (with_reducible refine Below.setCell ?_ ?_ _) | go_size)) h1⟩)
set_option maxRecDepth 100000 in
theorem rpu_M (n : Int) (n0 : 0 < n) (n1 : n ≤ 18446744073709551615) (n71 : n % 1000000000 ≠ 0) (h : n % 1000000 = 0) (w : World) :
    Calls Tryd.prog 17 #[.int .u64 n] w fun e w' => e = .returned (.string (dec (n / 1000000) ++ ⟨#[77]⟩)) ∧ Below w.heap.size w w' := by
  have g71 : (n % 1000000000 == 0) = false := by simp [n71]
  have g77 : (n % 1000000 == 0) = true := by simp [h]
  have FT := dec_fits (n / 1000000) 77
  have k1 : IntKind.i64.wrap (1 + 1) = 2 := by rw [IntKind.wrap_i64]; omega
  have k2 : IntKind.i64.wrap 2 = 2 := by rw [IntKind.wrap_i64]; omega
  have gq : IntKind.u64.wrap (n.tdiv 1000000) = n / 1000000 := by rw [IntKind.wrap_u64, Int.tdiv_eq_ediv_of_nonneg (by omega)]; omega
  have PT := Lib.hid (fun w => refput_any (n / 1000000) (by omega) (by omega) w)
  obtain ⟨e0, e1, e2⟩ := sg_bt
  obtain ⟨x0, x1, x2⟩ := sg_ext
  go_enter Tryd.func17, Tryd.ntmps17
  go_wp2
  refine wp_loop_rounds 4 ?_
  rw [rounds_succ]
  go_wp2_with fail
  (try rw [e0])
  refine (unit_G _).mono ?_
  rintro ee ww ⟨rfl, rfl⟩
  go_wp2
  rw [rounds_succ]
  go_wp2_with fail
  (try rw [e1])
  refine (unit_M _).mono ?_
  rintro ee ww ⟨rfl, rfl⟩
  go_wp2
  go_region_with (first | (go_at_call 41; (try rw [e1]); refine (unit_M _).mono ?_; rintro ee w2 ⟨rfl, rfl⟩) | (go_at_call 16; (try rw [gq]); refine (PT.out _).mono ?_; rintro ee w3 ⟨rfl, h1⟩))
  all_goals (go_wp2; go_ret; exact ⟨rfl, Below.go (by repeat' (first | (with_reducible exact Below.refl _ _) | (with_reducible assumption) | (with_reducible refine Below.alloc ?_ ?_ _) | (with_reducible refine below_drewN _ ?_) | (with_reducible refine Below.drew ?_) | (with_reducible refine Below.setCell ?_ ?_ _) | go_size)) h1⟩)
set_option maxRecDepth 100000 in
theorem rpu_K (n : Int) (n0 : 0 < n) (n1 : n ≤ 18446744073709551615) (n71 : n % 1000000000 ≠ 0) (n77 : n % 1000000 ≠ 0) (h : n % 1000 = 0) (w : World) :
    Calls Tryd.prog 17 #[.int .u64 n] w fun e w' => e = .returned (.string (dec (n / 1000) ++ ⟨#[75]⟩)) ∧ Below w.heap.size w w' := by
  have g71 : (n % 1000000000 == 0) = false := by simp [n71]
  have g77 : (n % 1000000 == 0) = false := by simp [n77]
  have g75 : (n % 1000 == 0) = true := by simp [h]
  have FT := dec_fits (n / 1000) 75
  have k1 : IntKind.i64.wrap (2 + 1) = 3 := by rw [IntKind.wrap_i64]; omega
  have k2 : IntKind.i64.wrap 3 = 3 := by rw [IntKind.wrap_i64]; omega
  have gq : IntKind.u64.wrap (n.tdiv 1000) = n / 1000 := by rw [IntKind.wrap_u64, Int.tdiv_eq_ediv_of_nonneg (by omega)]; omega
  have PT := Lib.hid (fun w => refput_any (n / 1000) (by omega) (by omega) w)
  obtain ⟨e0, e1, e2⟩ := sg_bt
  obtain ⟨x0, x1, x2⟩ := sg_ext
  go_enter Tryd.func17, Tryd.ntmps17
  go_wp2
  refine wp_loop_rounds 4 ?_
  rw [rounds_succ]
  go_wp2_with fail
  (try rw [e0])
  refine (unit_G _).mono ?_
  rintro ee ww ⟨rfl, rfl⟩
  go_wp2
  rw [rounds_succ]
  go_wp2_with fail
  (try rw [e1])
  refine (unit_M _).mono ?_
  rintro ee ww ⟨rfl, rfl⟩
  go_wp2
  rw [rounds_succ]
  go_wp2_with fail
  (try rw [e2])
  refine (unit_K _).mono ?_
  rintro ee ww ⟨rfl, rfl⟩
  go_wp2
  go_region_with (first | (go_at_call 41; (try rw [e2]); refine (unit_K _).mono ?_; rintro ee w2 ⟨rfl, rfl⟩) | (go_at_call 16; (try rw [gq]); refine (PT.out _).mono ?_; rintro ee w3 ⟨rfl, h1⟩))
  all_goals (go_wp2; go_ret; exact ⟨rfl, Below.go (by repeat' (first | (with_reducible exact Below.refl _ _) | (with_reducible assumption) | (with_reducible refine Below.alloc ?_ ?_ _) | (with_reducible refine below_drewN _ ?_) | (with_reducible refine Below.drew ?_) | (with_reducible refine Below.setCell ?_ ?_ _) | go_size)) h1⟩)
set_option maxRecDepth 100000 in
theorem rpu_none (n : Int) (n0 : 0 < n) (n1 : n ≤ 18446744073709551615) (n71 : n % 1000000000 ≠ 0) (n77 : n % 1000000 ≠ 0) (n75 : n % 1000 ≠ 0) (w : World) :
    Calls Tryd.prog 17 #[.int .u64 n] w fun e w' => e = .returned (.string (dec n)) ∧ Below w.heap.size w w' := by
  have g71 : (n % 1000000000 == 0) = false := by simp [n71]
  have g77 : (n % 1000000 == 0) = false := by simp [n77]
  have g75 : (n % 1000 == 0) = false := by simp [n75]
  have PT := Lib.hid (fun w => refput_any n (by omega) (by omega) w)
  obtain ⟨e0, e1, e2⟩ := sg_bt
  obtain ⟨x0, x1, x2⟩ := sg_ext
  go_enter Tryd.func17, Tryd.ntmps17
  go_wp2
  refine wp_loop_rounds 4 ?_
  rw [rounds_succ]
  go_wp2_with fail
  (try rw [e0])
  refine (unit_G _).mono ?_
  rintro ee ww ⟨rfl, rfl⟩
  go_wp2
  rw [rounds_succ]
  go_wp2_with fail
  (try rw [e1])
  refine (unit_M _).mono ?_
  rintro ee ww ⟨rfl, rfl⟩
  go_wp2
  rw [rounds_succ]
  go_wp2_with fail
  (try rw [e2])
  refine (unit_K _).mono ?_
  rintro ee ww ⟨rfl, rfl⟩
  go_wp2
  rw [rounds_succ]
  go_wp2_with fail
  refine (PT.out _).mono ?_
  rintro ee w1 ⟨rfl, b1⟩
  go_wp2
  go_ret
  exact ⟨rfl, b1⟩
set_option maxRecDepth 100000 in
theorem rpu_zero (w : World) :
    Calls Tryd.prog 17 #[.int .u64 0] w fun e w' => e = .returned (.string (dec 0)) ∧ Below w.heap.size w w' := by
  have PT := Lib.hid (fun w => refput_any 0 (by omega) (by omega) w)
  go_enter Tryd.func17, Tryd.ntmps17
  go_wp2
  refine wp_loop_rounds 4 ?_
  rw [rounds_succ]
  go_wp2
  rw [rounds_succ]
  go_wp2
  rw [rounds_succ]
  go_wp2
  rw [rounds_succ]
  go_wp2_with fail
  refine (PT.out _).mono ?_
  rintro ee w1 ⟨rfl, b1⟩
  go_wp2
  go_ret
  exact ⟨rfl, b1⟩
theorem refputunit_any (n : Int) (n0 : 0 ≤ n) (n1 : n ≤ 18446744073709551615) (w : World) :
    Calls Tryd.prog 17 #[.int .u64 n] w fun e w' => e = .returned (.string (pu n)) ∧ Below w.heap.size w w' := by
  unfold pu
  by_cases hz : n = 0
  · subst hz
    rw [if_pos rfl]
    exact rpu_zero w
  · rw [if_neg hz]
    by_cases hG : n % 1000000000 = 0
    · rw [if_pos hG]
      exact rpu_G n (by omega) n1 hG w
    · rw [if_neg hG]
      by_cases hM : n % 1000000 = 0
      · rw [if_pos hM]
        exact rpu_M n (by omega) n1 hG hM w
      · rw [if_neg hM]
        by_cases hK : n % 1000 = 0
        · rw [if_pos hK]
          exact rpu_K n (by omega) n1 hG hM hK w
        · rw [if_neg hK]
          exact rpu_none n (by omega) n1 hG hM hK w
end Go.Proofs.YtdeehklegeeanaaDoor
