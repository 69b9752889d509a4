/-
  The decimal of a number with its unit, by package digits. What lay below the heap's end stands. No condition but that the variables hold what they hold at the start.
-/
import Derived.Test.YtdeehklegeeanaaDoorDigUnit
import Derived.Test.YtdeehklegeeanaaDoorDigPut
import Derived.Deep.RegionHeld3
namespace Go.Proofs.YtdeehklegeeanaaDoor
set_option linter.unusedVariables false
set_option linter.unusedSimpArgs false
open Go.ChangeShapes Go.WideShapes Go.ChangeAt Go.RowKit
attribute [-go_sem] run_index_string binOp_string_eql binOp_string_neq run_string_add_if run_slice_string_from_if run_slice_string_to_if
attribute [local go_sem] index_bt add_fits slice_from slice_to eql_str neq_str alloc_drewN setCell_drewN

/-- A number's text, with the greatest unit of which it is a multiple. -/
def pu (n : Int) : ByteArray := if n = 0 then dec 0 else if n % 1000000000 = 0 then dec (n / 1000000000) ++ ⟨#[71]⟩ else if n % 1000000 = 0 then dec (n / 1000000) ++ ⟨#[77]⟩ else if n % 1000 = 0 then dec (n / 1000) ++ ⟨#[75]⟩ else dec n
theorem dec_fits (n : Int) (c : UInt8) : Fits (dec n) ⟨#[c]⟩ := ⟨by
  have h := (decN_pos 19 n).2
  show (decN 19 n).size + 1 ≤ _
  omega⟩
set_option maxRecDepth 100000 in
theorem pu_G (n : Int) (n0 : 0 < n) (n1 : n ≤ 18446744073709551615)  (h : n % 1000000000 = 0) (w : World) (hU : UnitsAt w) (PT : Hid (∀ w1 : World, Below w.heap.size w w1 → Calls Tryd.prog 14 #[.int .u64 (n / 1000000000)] w1 fun e w' => e = .returned (.string (dec (n / 1000000000))) ∧ Below w1.heap.size w1 w')) :
    Calls Tryd.prog 15 #[.int .u64 n] w fun e w' => e = .returned (.string (dec (n / 1000000000) ++ ⟨#[71]⟩)) ∧ Below w.heap.size w w' := by
  have g71 : (n % 1000000000 == 0) = true := by simp [h]
  have FT := dec_fits (n / 1000000000) 71
  have gq : IntKind.u64.wrap (n.tdiv 1000000000) = n / 1000000000 := by rw [IntKind.wrap_u64, Int.tdiv_eq_ediv_of_nonneg (by omega)]; omega
  have S0 : Hid (∀ v, Below (w.alloc (.cells #[.string ⟨#[71]⟩, .int .u64 1000000000] 68)).heap.size (w.alloc (.cells #[.string ⟨#[71]⟩, .int .u64 1000000000] 68)) v → v.cell? ⟨w.heap.size, 0, none⟩ = some (.string ⟨#[71]⟩) ∧ v.cell? ⟨w.heap.size, 1, none⟩ = some (.int .u64 1000000000)) := Lib.hid fun v hv => by
    refine ⟨(hv.cell (p := ⟨w.heap.size, 0, none⟩) (by simp)).trans ?_, (hv.cell (p := ⟨w.heap.size, 1, none⟩) (by simp)).trans ?_⟩ <;> simp [go_sem]
  have gz : (n == 0) = false := by rw [beq_eq_false_iff_ne]; omega
  obtain ⟨c0, c1, c2, c3, c4, c5, old⟩ := hU
  have U0 := fun a0 a1 a2 a3 a4 a5 W => (units_index a0 a1 a2 a3 a4 a5 W).1
  have U1 := fun a0 a1 a2 a3 a4 a5 W => (units_index a0 a1 a2 a3 a4 a5 W).2.1
  have U2 := fun a0 a1 a2 a3 a4 a5 W => (units_index a0 a1 a2 a3 a4 a5 W).2.2
  go_enter Tryd.func15, Tryd.ntmps15
  go_wp2
  refine wp_loop_rounds 4 ?_
  rw [rounds_succ]
  go_wp2
  go_region_held3 (fun v => v.cell? ⟨w.heap.size, 0, none⟩ = some (.string ⟨#[71]⟩) ∧ v.cell? ⟨w.heap.size, 1, none⟩ = some (.int .u64 1000000000))
    ((first | exact S0.out _ (Below.refl _ _).drew | exact S0.out _ ((Below.refl _ _).drew.trans h1) | exact S0.out _ (((below_drewN _ (Below.refl _ _)).drew).trans (h1.mono (by repeat' (first | (with_reducible exact Below.refl _ _) | (with_reducible assumption) | (with_reducible refine Below.alloc ?_ ?_ _) | (with_reducible refine below_drewN _ ?_) | (with_reducible refine Below.drew ?_) | (with_reducible refine Below.setCell ?_ ?_ _) | go_size)))) | exact S0.out _ ((below_drewN _ (Below.refl _ _)).drew.trans h1) | exact S0.out _ (below_drewN _ (Below.refl _ _)).drew))
    (first | (go_at_call 14; (try rw [gq]); refine (PT.out _ (by repeat' (first | (with_reducible exact Below.refl _ _) | (with_reducible assumption) | (with_reducible refine Below.alloc ?_ ?_ _) | (with_reducible refine below_drewN _ ?_) | (with_reducible refine Below.drew ?_) | (with_reducible refine Below.setCell ?_ ?_ _) | go_size))).mono ?_; rintro e1 w1 ⟨rfl, h1⟩) | fail)
  go_wp2
  go_ret
  exact ⟨rfl, Below.go (by repeat' (first | (with_reducible exact Below.refl _ _) | (with_reducible assumption) | (with_reducible refine Below.alloc ?_ ?_ _) | (with_reducible refine below_drewN _ ?_) | (with_reducible refine Below.drew ?_) | (with_reducible refine Below.setCell ?_ ?_ _) | go_size)) h1⟩
set_option maxRecDepth 100000 in
theorem pu_M (n : Int) (n0 : 0 < n) (n1 : n ≤ 18446744073709551615) (n71 : n % 1000000000 ≠ 0) (h : n % 1000000 = 0) (w : World) (hU : UnitsAt w) (PT : Hid (∀ w1 : World, Below w.heap.size w w1 → Calls Tryd.prog 14 #[.int .u64 (n / 1000000)] w1 fun e w' => e = .returned (.string (dec (n / 1000000))) ∧ Below w1.heap.size w1 w')) :
    Calls Tryd.prog 15 #[.int .u64 n] w fun e w' => e = .returned (.string (dec (n / 1000000) ++ ⟨#[77]⟩)) ∧ Below w.heap.size w w' := by
  have g71 : (n % 1000000000 == 0) = false := by simp [n71]
  have g77 : (n % 1000000 == 0) = true := by simp [h]
  have FT := dec_fits (n / 1000000) 77
  have gq : IntKind.u64.wrap (n.tdiv 1000000) = n / 1000000 := by rw [IntKind.wrap_u64, Int.tdiv_eq_ediv_of_nonneg (by omega)]; omega
  have S0 : Hid (∀ v, Below ((w.alloc (.cells #[.string ⟨#[71]⟩, .int .u64 1000000000] 68)).alloc (.cells #[.string ⟨#[77]⟩, .int .u64 1000000] 68)).heap.size ((w.alloc (.cells #[.string ⟨#[71]⟩, .int .u64 1000000000] 68)).alloc (.cells #[.string ⟨#[77]⟩, .int .u64 1000000] 68)) v → v.cell? ⟨w.heap.size + 1, 0, none⟩ = some (.string ⟨#[77]⟩) ∧ v.cell? ⟨w.heap.size + 1, 1, none⟩ = some (.int .u64 1000000)) := Lib.hid fun v hv => by
    refine ⟨(hv.cell (p := ⟨w.heap.size + 1, 0, none⟩) (by simp)).trans ?_, (hv.cell (p := ⟨w.heap.size + 1, 1, none⟩) (by simp)).trans ?_⟩ <;> simp [go_sem]
  have gz : (n == 0) = false := by rw [beq_eq_false_iff_ne]; omega
  obtain ⟨c0, c1, c2, c3, c4, c5, old⟩ := hU
  have U0 := fun a0 a1 a2 a3 a4 a5 W => (units_index a0 a1 a2 a3 a4 a5 W).1
  have U1 := fun a0 a1 a2 a3 a4 a5 W => (units_index a0 a1 a2 a3 a4 a5 W).2.1
  have U2 := fun a0 a1 a2 a3 a4 a5 W => (units_index a0 a1 a2 a3 a4 a5 W).2.2
  go_enter Tryd.func15, Tryd.ntmps15
  go_wp2
  refine wp_loop_rounds 4 ?_
  rw [rounds_succ]
  go_wp2
  rw [rounds_succ]
  go_wp2
  go_region_held3 (fun v => v.cell? ⟨w.heap.size + 1, 0, none⟩ = some (.string ⟨#[77]⟩) ∧ v.cell? ⟨w.heap.size + 1, 1, none⟩ = some (.int .u64 1000000))
    ((first | exact S0.out _ (Below.refl _ _).drew | exact S0.out _ ((Below.refl _ _).drew.trans h1) | exact S0.out _ (((below_drewN _ (Below.refl _ _)).drew).trans (h1.mono (by repeat' (first | (with_reducible exact Below.refl _ _) | (with_reducible assumption) | (with_reducible refine Below.alloc ?_ ?_ _) | (with_reducible refine below_drewN _ ?_) | (with_reducible refine Below.drew ?_) | (with_reducible refine Below.setCell ?_ ?_ _) | go_size)))) | exact S0.out _ ((below_drewN _ (Below.refl _ _)).drew.trans h1) | exact S0.out _ (below_drewN _ (Below.refl _ _)).drew))
    (first | (go_at_call 14; (try rw [gq]); refine (PT.out _ (by repeat' (first | (with_reducible exact Below.refl _ _) | (with_reducible assumption) | (with_reducible refine Below.alloc ?_ ?_ _) | (with_reducible refine below_drewN _ ?_) | (with_reducible refine Below.drew ?_) | (with_reducible refine Below.setCell ?_ ?_ _) | go_size))).mono ?_; rintro e1 w1 ⟨rfl, h1⟩) | fail)
  go_wp2
  go_ret
  exact ⟨rfl, Below.go (by repeat' (first | (with_reducible exact Below.refl _ _) | (with_reducible assumption) | (with_reducible refine Below.alloc ?_ ?_ _) | (with_reducible refine below_drewN _ ?_) | (with_reducible refine Below.drew ?_) | (with_reducible refine Below.setCell ?_ ?_ _) | go_size)) h1⟩
set_option maxRecDepth 100000 in
theorem pu_K (n : Int) (n0 : 0 < n) (n1 : n ≤ 18446744073709551615) (n71 : n % 1000000000 ≠ 0) (n77 : n % 1000000 ≠ 0) (h : n % 1000 = 0) (w : World) (hU : UnitsAt w) (PT : Hid (∀ w1 : World, Below w.heap.size w w1 → Calls Tryd.prog 14 #[.int .u64 (n / 1000)] w1 fun e w' => e = .returned (.string (dec (n / 1000))) ∧ Below w1.heap.size w1 w')) :
    Calls Tryd.prog 15 #[.int .u64 n] w fun e w' => e = .returned (.string (dec (n / 1000) ++ ⟨#[75]⟩)) ∧ Below w.heap.size w w' := by
  have g71 : (n % 1000000000 == 0) = false := by simp [n71]
  have g77 : (n % 1000000 == 0) = false := by simp [n77]
  have g75 : (n % 1000 == 0) = true := by simp [h]
  have FT := dec_fits (n / 1000) 75
  have gq : IntKind.u64.wrap (n.tdiv 1000) = n / 1000 := by rw [IntKind.wrap_u64, Int.tdiv_eq_ediv_of_nonneg (by omega)]; omega
  have S0 : Hid (∀ v, Below (((w.alloc (.cells #[.string ⟨#[71]⟩, .int .u64 1000000000] 68)).alloc (.cells #[.string ⟨#[77]⟩, .int .u64 1000000] 68)).alloc (.cells #[.string ⟨#[75]⟩, .int .u64 1000] 68)).heap.size (((w.alloc (.cells #[.string ⟨#[71]⟩, .int .u64 1000000000] 68)).alloc (.cells #[.string ⟨#[77]⟩, .int .u64 1000000] 68)).alloc (.cells #[.string ⟨#[75]⟩, .int .u64 1000] 68)) v → v.cell? ⟨w.heap.size + 2, 0, none⟩ = some (.string ⟨#[75]⟩) ∧ v.cell? ⟨w.heap.size + 2, 1, none⟩ = some (.int .u64 1000)) := Lib.hid fun v hv => by
    refine ⟨(hv.cell (p := ⟨w.heap.size + 2, 0, none⟩) (by simp)).trans ?_, (hv.cell (p := ⟨w.heap.size + 2, 1, none⟩) (by simp)).trans ?_⟩ <;> simp [go_sem]
  have gz : (n == 0) = false := by rw [beq_eq_false_iff_ne]; omega
  obtain ⟨c0, c1, c2, c3, c4, c5, old⟩ := hU
  have U0 := fun a0 a1 a2 a3 a4 a5 W => (units_index a0 a1 a2 a3 a4 a5 W).1
  have U1 := fun a0 a1 a2 a3 a4 a5 W => (units_index a0 a1 a2 a3 a4 a5 W).2.1
  have U2 := fun a0 a1 a2 a3 a4 a5 W => (units_index a0 a1 a2 a3 a4 a5 W).2.2
  go_enter Tryd.func15, Tryd.ntmps15
  go_wp2
  refine wp_loop_rounds 4 ?_
  rw [rounds_succ]
  go_wp2
  rw [rounds_succ]
  go_wp2
  rw [rounds_succ]
  go_wp2
  go_region_held3 (fun v => v.cell? ⟨w.heap.size + 2, 0, none⟩ = some (.string ⟨#[75]⟩) ∧ v.cell? ⟨w.heap.size + 2, 1, none⟩ = some (.int .u64 1000))
    ((first | exact S0.out _ (Below.refl _ _).drew | exact S0.out _ ((Below.refl _ _).drew.trans h1) | exact S0.out _ (((below_drewN _ (Below.refl _ _)).drew).trans (h1.mono (by repeat' (first | (with_reducible exact Below.refl _ _) | (with_reducible assumption) | (with_reducible refine Below.alloc ?_ ?_ _) | (with_reducible refine below_drewN _ ?_) | (with_reducible refine Below.drew ?_) | (with_reducible refine Below.setCell ?_ ?_ _) | go_size)))) | exact S0.out _ ((below_drewN _ (Below.refl _ _)).drew.trans h1) | exact S0.out _ (below_drewN _ (Below.refl _ _)).drew))
    (first | (go_at_call 14; (try rw [gq]); refine (PT.out _ (by repeat' (first | (with_reducible exact Below.refl _ _) | (with_reducible assumption) | (with_reducible refine Below.alloc ?_ ?_ _) | (with_reducible refine below_drewN _ ?_) | (with_reducible refine Below.drew ?_) | (with_reducible refine Below.setCell ?_ ?_ _) | go_size))).mono ?_; rintro e1 w1 ⟨rfl, h1⟩) | fail)
  go_wp2
  go_ret
  exact ⟨rfl, Below.go (by repeat' (first | (with_reducible exact Below.refl _ _) | (with_reducible assumption) | (with_reducible refine Below.alloc ?_ ?_ _) | (with_reducible refine below_drewN _ ?_) | (with_reducible refine Below.drew ?_) | (with_reducible refine Below.setCell ?_ ?_ _) | go_size)) h1⟩
set_option maxRecDepth 100000 in
theorem pu_none (n : Int) (n0 : 0 < n) (n1 : n ≤ 18446744073709551615) (n71 : n % 1000000000 ≠ 0) (n77 : n % 1000000 ≠ 0) (n75 : n % 1000 ≠ 0) (w : World) (hU : UnitsAt w) (PT : Hid (∀ w1 : World, Below w.heap.size w w1 → Calls Tryd.prog 14 #[.int .u64 n] w1 fun e w' => e = .returned (.string (dec n)) ∧ Below w1.heap.size w1 w')) :
    Calls Tryd.prog 15 #[.int .u64 n] w fun e w' => e = .returned (.string (dec n)) ∧ Below w.heap.size w w' := by
  have g71 : (n % 1000000000 == 0) = false := by simp [n71]
  have g77 : (n % 1000000 == 0) = false := by simp [n77]
  have g75 : (n % 1000 == 0) = false := by simp [n75]
  have gz : (n == 0) = false := by rw [beq_eq_false_iff_ne]; omega
  obtain ⟨c0, c1, c2, c3, c4, c5, old⟩ := hU
  have U0 := fun a0 a1 a2 a3 a4 a5 W => (units_index a0 a1 a2 a3 a4 a5 W).1
  have U1 := fun a0 a1 a2 a3 a4 a5 W => (units_index a0 a1 a2 a3 a4 a5 W).2.1
  have U2 := fun a0 a1 a2 a3 a4 a5 W => (units_index a0 a1 a2 a3 a4 a5 W).2.2
  go_enter Tryd.func15, Tryd.ntmps15
  go_wp2
  refine wp_loop_rounds 4 ?_
  rw [rounds_succ]
  go_wp2
  rw [rounds_succ]
  go_wp2
  rw [rounds_succ]
  go_wp2
  rw [rounds_succ]
  go_wp2_with fail
  refine (PT.out _ (by repeat' (first | (with_reducible exact Below.refl _ _) | (with_reducible assumption) | (with_reducible refine Below.alloc ?_ ?_ _) | (with_reducible refine below_drewN _ ?_) | (with_reducible refine Below.drew ?_) | (with_reducible refine Below.setCell ?_ ?_ _) | go_size))).mono ?_
  rintro e1 w1 ⟨rfl, b1⟩
  go_wp2
  go_ret
  exact ⟨rfl, Below.go (by repeat' (first | (with_reducible exact Below.refl _ _) | (with_reducible assumption) | (with_reducible refine Below.alloc ?_ ?_ _) | (with_reducible refine below_drewN _ ?_) | (with_reducible refine Below.drew ?_) | (with_reducible refine Below.setCell ?_ ?_ _) | go_size)) b1⟩
set_option maxRecDepth 100000 in
theorem pu_zero (w : World) (PT : Hid (Calls Tryd.prog 14 #[.int .u64 0] w fun e w' => e = .returned (.string (dec 0)) ∧ Below w.heap.size w w')) :
    Calls Tryd.prog 15 #[.int .u64 0] w fun e w' => e = .returned (.string (dec 0)) ∧ Below w.heap.size w w' := by
  go_enter Tryd.func15, Tryd.ntmps15
  go_wp2_with fail
  refine PT.out.mono ?_
  rintro e1 w1 ⟨rfl, b1⟩
  go_wp2
  go_ret
  exact ⟨rfl, b1⟩
theorem putunit_any (n : Int) (n0 : 0 ≤ n) (n1 : n ≤ 18446744073709551615) (w : World) (hU : UnitsAt w) (hT : ∀ w1 : World, Below w.heap.size w w1 → Lib.TabIs Tryd.prog w1 "internal/strconv.uint64pow10" .u64 Lib.pow10Tab) :
    Calls Tryd.prog 15 #[.int .u64 n] w fun e w' => e = .returned (.string (pu n)) ∧ Below w.heap.size w w' := by
  have PT : ∀ q : Int, 0 ≤ q → q ≤ 18446744073709551615 → ∀ w1 : World, Below w.heap.size w w1 → Calls Tryd.prog 14 #[.int .u64 q] w1 fun e w' => e = .returned (.string (dec q)) ∧ Below w1.heap.size w1 w' := fun q q0 q1 w1 b1 => put_any2 q q0 q1 w1 (hT w1 b1)
  unfold pu
  by_cases hz : n = 0
  · subst hz
    rw [if_pos rfl]
    exact pu_zero w (PT 0 (by omega) (by omega) w (Below.refl _ _))
  · rw [if_neg hz]
    by_cases hG : n % 1000000000 = 0
    · rw [if_pos hG]
      exact pu_G n (by omega) n1 hG w hU (PT _ (by omega) (by omega))
    · rw [if_neg hG]
      by_cases hM : n % 1000000 = 0
      · rw [if_pos hM]
        exact pu_M n (by omega) n1 hG hM w hU (PT _ (by omega) (by omega))
      · rw [if_neg hM]
        by_cases hK : n % 1000 = 0
        · rw [if_pos hK]
          exact pu_K n (by omega) n1 hG hM hK w hU (PT _ (by omega) (by omega))
        · rw [if_neg hK]
          exact pu_none n (by omega) n1 hG hM hK w hU (PT _ n0 n1)
end Go.Proofs.YtdeehklegeeanaaDoor
