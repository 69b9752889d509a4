/-
  A number's unit, by package digits: the units' variable, a text without its unit. What lay below the heap's end stands. No condition but that texts are short, and that the variable holds the units.
-/
import Derived.Test.YtdeehklegeeanaaDoorDigGet
namespace Go.Proofs.YtdeehklegeeanaaDoor
set_option linter.unusedVariables false
set_option linter.unusedSimpArgs false
open Go.ChangeShapes Go.WideShapes Go.ChangeAt Go.RowKit
attribute [-go_sem] run_index_string binOp_string_eql binOp_string_neq run_string_add_if run_slice_string_from_if run_slice_string_to_if
attribute [local go_sem] index_bt add_fits slice_from slice_to eql_str neq_str alloc_drewN setCell_drewN

theorem has_one (s : ByteArray) (c : UInt8) : Lib.hasSuffix s.data.toList [c] = decide (1 ≤ s.size ∧ bt s ((s.size - 1 : Nat) : Int) = (c.toNat : Int)) := by
  rw [bt_nat, ← len_data]
  unfold Lib.hasSuffix
  rcases List.eq_nil_or_concat s.data.toList with h | ⟨l, a, h⟩
  · rw [h]; simp [List.isSuffixOf, List.isPrefixOf]
  · rw [h, Bool.eq_iff_iff]
    simp [List.isSuffixOf, List.isPrefixOf]
    constructor
    · rintro rfl; rfl
    · intro e; exact (UInt8.toNat_inj.1 (by omega)).symm
theorem cs_yes (s : ByteArray) (hs : s.size ≤ 1000000) (c : UInt8) (h : 1 ≤ s.size ∧ bt s ((s.size - 1 : Nat) : Int) = (c.toNat : Int)) (w : World) :
    Calls Tryd.prog 52 #[.string s, .string ⟨#[c]⟩] w fun e w' => e = .returned (.tuple #[.string (s.extract 0 (s.size - 1)), .bool true]) ∧ w = w' := by
  have hh := has_one s c
  rw [decide_eq_true h] at hh
  refine (Tryd.strings_CutSuffix s ⟨#[c]⟩ w (by omega)).mono ?_
  rintro e w' ⟨rfl, rfl⟩
  refine ⟨?_, rfl⟩
  show Ending.returned (.tuple #[.string ⟨(Lib.trimSuffix s.data.toList [c]).toArray⟩, .bool (Lib.hasSuffix s.data.toList [c])]) = _
  unfold Lib.trimSuffix
  rw [hh, if_pos rfl]
  have e : (⟨(s.data.toList.take (s.data.toList.length - [c].length)).toArray⟩ : ByteArray) = s.extract 0 (s.size - 1) := by
    apply ByteArray.ext
    apply Array.toList_inj.1
    rw [data_extract_list, len_data]
    simp
  rw [e]
theorem cs_no (s : ByteArray) (hs : s.size ≤ 1000000) (c : UInt8) (h : ¬ (1 ≤ s.size ∧ bt s ((s.size - 1 : Nat) : Int) = (c.toNat : Int))) (w : World) :
    Calls Tryd.prog 52 #[.string s, .string ⟨#[c]⟩] w fun e w' => e = .returned (.tuple #[.string s, .bool false]) ∧ w = w' := by
  have hh := has_one s c
  rw [decide_eq_false h] at hh
  refine (Tryd.strings_CutSuffix s ⟨#[c]⟩ w (by omega)).mono ?_
  rintro e w' ⟨rfl, rfl⟩
  refine ⟨?_, rfl⟩
  show Ending.returned (.tuple #[.string ⟨(Lib.trimSuffix s.data.toList [c]).toArray⟩, .bool (Lib.hasSuffix s.data.toList [c])]) = _
  unfold Lib.trimSuffix
  rw [hh]
  rfl

/-- The units' variable holds the units. -/
structure UnitsAt (w : World) : Prop where
  c0 : w.cell? ⟨0, 0, none⟩ = some (.string ⟨#[71]⟩)
  c1 : w.cell? ⟨0, 1, none⟩ = some (.int .u64 1000000000)
  c2 : w.cell? ⟨0, 2, none⟩ = some (.string ⟨#[77]⟩)
  c3 : w.cell? ⟨0, 3, none⟩ = some (.int .u64 1000000)
  c4 : w.cell? ⟨0, 4, none⟩ = some (.string ⟨#[75]⟩)
  c5 : w.cell? ⟨0, 5, none⟩ = some (.int .u64 1000)
  old : 0 < w.heap.size

theorem units_index (a0 a1 a2 a3 a4 a5 : Value) (w : World) :
    (Instr.index 69 (.agg #[a0, a1, a2, a3, a4, a5]) (.int .i64 0)).run Tryd.prog w = .ok (.agg #[a0, a1]) w ∧
    (Instr.index 69 (.agg #[a0, a1, a2, a3, a4, a5]) (.int .i64 1)).run Tryd.prog w = .ok (.agg #[a2, a3]) w ∧
    (Instr.index 69 (.agg #[a0, a1, a2, a3, a4, a5]) (.int .i64 2)).run Tryd.prog w = .ok (.agg #[a4, a5]) w := by
  refine ⟨?_, ?_, ?_⟩ <;> simp [Instr.index, run_underlying Tryd.underlying69, asIntOf, go_sem]
set_option maxRecDepth 100000 in
theorem cut_G (s : ByteArray) (hs : s.size ≤ 1000000)  (h : 1 ≤ s.size ∧ bt s ((s.size - 1 : Nat) : Int) = 71) (w : World) (hU : UnitsAt w) :
    Calls Tryd.prog 40 #[.string s] w fun e w' => e = .returned (.tuple #[.string (s.extract 0 (s.size - 1)), .int .u64 1000000000]) ∧ Below w.heap.size w w' := by
  have C71 := Lib.hid (cs_yes s hs 71 h)
  obtain ⟨c0, c1, c2, c3, c4, c5, old⟩ := hU
  obtain ⟨t, ht⟩ : ∃ t : ByteArray, s.extract 0 (s.size - 1) = t := ⟨_, rfl⟩
  rw [ht] at C71 ⊢
  clear h ht
  clear hs
  have U0 := fun a0 a1 a2 a3 a4 a5 W => (units_index a0 a1 a2 a3 a4 a5 W).1
  have U1 := fun a0 a1 a2 a3 a4 a5 W => (units_index a0 a1 a2 a3 a4 a5 W).2.1
  have U2 := fun a0 a1 a2 a3 a4 a5 W => (units_index a0 a1 a2 a3 a4 a5 W).2.2
  go_enter Tryd.func40, Tryd.ntmps40
  go_wp2
  refine wp_loop_rounds 3 ?_
  rw [rounds_succ]
  go_wp2_with fail
  refine (C71.out _).mono ?_
  rintro e1 w1 ⟨rfl, rfl⟩
  go_wp2
  go_quiet (fail)
  go_wp2
  go_ret2
  exact ⟨rfl, by repeat' (first
    | (with_reducible exact Below.refl _ _) | (with_reducible assumption) | (with_reducible refine Below.alloc ?_ ?_ _) | (with_reducible refine below_drewN _ ?_) | (with_reducible refine Below.drew ?_) | (with_reducible refine Below.setCell ?_ ?_ _) | go_size)⟩
set_option maxRecDepth 100000 in
theorem cut_M (s : ByteArray) (hs : s.size ≤ 1000000) (n71 : ¬ (1 ≤ s.size ∧ bt s ((s.size - 1 : Nat) : Int) = 71)) (h : 1 ≤ s.size ∧ bt s ((s.size - 1 : Nat) : Int) = 77) (w : World) (hU : UnitsAt w) :
    Calls Tryd.prog 40 #[.string s] w fun e w' => e = .returned (.tuple #[.string (s.extract 0 (s.size - 1)), .int .u64 1000000]) ∧ Below w.heap.size w w' := by
  have C71 := Lib.hid (cs_no s hs 71 n71)
  have C77 := Lib.hid (cs_yes s hs 77 h)
  obtain ⟨c0, c1, c2, c3, c4, c5, old⟩ := hU
  obtain ⟨t, ht⟩ : ∃ t : ByteArray, s.extract 0 (s.size - 1) = t := ⟨_, rfl⟩
  rw [ht] at C77 ⊢
  clear h ht
  clear hs n71
  have U0 := fun a0 a1 a2 a3 a4 a5 W => (units_index a0 a1 a2 a3 a4 a5 W).1
  have U1 := fun a0 a1 a2 a3 a4 a5 W => (units_index a0 a1 a2 a3 a4 a5 W).2.1
  have U2 := fun a0 a1 a2 a3 a4 a5 W => (units_index a0 a1 a2 a3 a4 a5 W).2.2
  go_enter Tryd.func40, Tryd.ntmps40
  go_wp2
  refine wp_loop_rounds 3 ?_
  rw [rounds_succ]
  go_wp2_with fail
  refine (C71.out _).mono ?_
  rintro e1 w1 ⟨rfl, rfl⟩
  go_wp2
  rw [rounds_succ]
  go_wp2_with fail
  refine (C77.out _).mono ?_
  rintro e1 w1 ⟨rfl, rfl⟩
  go_wp2
  go_quiet (fail)
  go_wp2
  go_ret2
  exact ⟨rfl, by repeat' (first
    | (with_reducible exact Below.refl _ _) | (with_reducible assumption) | (with_reducible refine Below.alloc ?_ ?_ _) | (with_reducible refine below_drewN _ ?_) | (with_reducible refine Below.drew ?_) | (with_reducible refine Below.setCell ?_ ?_ _) | go_size)⟩
set_option maxRecDepth 100000 in
theorem cut_K (s : ByteArray) (hs : s.size ≤ 1000000) (n71 : ¬ (1 ≤ s.size ∧ bt s ((s.size - 1 : Nat) : Int) = 71)) (n77 : ¬ (1 ≤ s.size ∧ bt s ((s.size - 1 : Nat) : Int) = 77)) (h : 1 ≤ s.size ∧ bt s ((s.size - 1 : Nat) : Int) = 75) (w : World) (hU : UnitsAt w) :
    Calls Tryd.prog 40 #[.string s] w fun e w' => e = .returned (.tuple #[.string (s.extract 0 (s.size - 1)), .int .u64 1000]) ∧ Below w.heap.size w w' := by
  have C71 := Lib.hid (cs_no s hs 71 n71)
  have C77 := Lib.hid (cs_no s hs 77 n77)
  have C75 := Lib.hid (cs_yes s hs 75 h)
  obtain ⟨c0, c1, c2, c3, c4, c5, old⟩ := hU
  obtain ⟨t, ht⟩ : ∃ t : ByteArray, s.extract 0 (s.size - 1) = t := ⟨_, rfl⟩
  rw [ht] at C75 ⊢
  clear h ht
  clear hs n71 n77
  have U0 := fun a0 a1 a2 a3 a4 a5 W => (units_index a0 a1 a2 a3 a4 a5 W).1
  have U1 := fun a0 a1 a2 a3 a4 a5 W => (units_index a0 a1 a2 a3 a4 a5 W).2.1
  have U2 := fun a0 a1 a2 a3 a4 a5 W => (units_index a0 a1 a2 a3 a4 a5 W).2.2
  go_enter Tryd.func40, Tryd.ntmps40
  go_wp2
  refine wp_loop_rounds 3 ?_
  rw [rounds_succ]
  go_wp2_with fail
  refine (C71.out _).mono ?_
  rintro e1 w1 ⟨rfl, rfl⟩
  go_wp2
  rw [rounds_succ]
  go_wp2_with fail
  refine (C77.out _).mono ?_
  rintro e1 w1 ⟨rfl, rfl⟩
  go_wp2
  rw [rounds_succ]
  go_wp2_with fail
  refine (C75.out _).mono ?_
  rintro e1 w1 ⟨rfl, rfl⟩
  go_wp2
  go_quiet (fail)
  go_wp2
  go_ret2
  exact ⟨rfl, by repeat' (first
    | (with_reducible exact Below.refl _ _) | (with_reducible assumption) | (with_reducible refine Below.alloc ?_ ?_ _) | (with_reducible refine below_drewN _ ?_) | (with_reducible refine Below.drew ?_) | (with_reducible refine Below.setCell ?_ ?_ _) | go_size)⟩
set_option maxRecDepth 100000 in
theorem cut_none (s : ByteArray) (hs : s.size ≤ 1000000) (n71 : ¬ (1 ≤ s.size ∧ bt s ((s.size - 1 : Nat) : Int) = 71)) (n77 : ¬ (1 ≤ s.size ∧ bt s ((s.size - 1 : Nat) : Int) = 77)) (n75 : ¬ (1 ≤ s.size ∧ bt s ((s.size - 1 : Nat) : Int) = 75)) (w : World) (hU : UnitsAt w) :
    Calls Tryd.prog 40 #[.string s] w fun e w' => e = .returned (.tuple #[.string s, .int .u64 1]) ∧ Below w.heap.size w w' := by
  have C71 := Lib.hid (cs_no s hs 71 n71)
  have C77 := Lib.hid (cs_no s hs 77 n77)
  have C75 := Lib.hid (cs_no s hs 75 n75)
  obtain ⟨c0, c1, c2, c3, c4, c5, old⟩ := hU
  clear hs n71 n77 n75
  have U0 := fun a0 a1 a2 a3 a4 a5 W => (units_index a0 a1 a2 a3 a4 a5 W).1
  have U1 := fun a0 a1 a2 a3 a4 a5 W => (units_index a0 a1 a2 a3 a4 a5 W).2.1
  have U2 := fun a0 a1 a2 a3 a4 a5 W => (units_index a0 a1 a2 a3 a4 a5 W).2.2
  go_enter Tryd.func40, Tryd.ntmps40
  go_wp2
  refine wp_loop_rounds 4 ?_
  rw [rounds_succ]
  go_wp2_with fail
  refine (C71.out _).mono ?_
  rintro e1 w1 ⟨rfl, rfl⟩
  go_wp2
  rw [rounds_succ]
  go_wp2_with fail
  refine (C77.out _).mono ?_
  rintro e1 w1 ⟨rfl, rfl⟩
  go_wp2
  rw [rounds_succ]
  go_wp2_with fail
  refine (C75.out _).mono ?_
  rintro e1 w1 ⟨rfl, rfl⟩
  go_wp2
  rw [rounds_succ]
  go_wp2
  go_ret2
  exact ⟨rfl, by repeat' (first
    | (with_reducible exact Below.refl _ _) | (with_reducible assumption) | (with_reducible refine Below.alloc ?_ ?_ _) | (with_reducible refine below_drewN _ ?_) | (with_reducible refine Below.drew ?_) | (with_reducible refine Below.setCell ?_ ?_ _) | go_size)⟩
/-- A text without its unit. -/
noncomputable def cutS (s : ByteArray) : ByteArray := if 1 < (if s.size = 0 then 1 else uw (bt s ((s.size - 1 : Nat) : Int))) then s.extract 0 (s.size - 1) else s
/-- A text's unit. -/
noncomputable def cutU (s : ByteArray) : Int := if s.size = 0 then 1 else uw (bt s ((s.size - 1 : Nat) : Int))
theorem cut_any (s : ByteArray) (hs : s.size ≤ 1000000) (w : World) (hU : UnitsAt w) :
    Calls Tryd.prog 40 #[.string s] w fun e w' => e = .returned (.tuple #[.string (cutS s), .int .u64 (cutU s)]) ∧ Below w.heap.size w w' := by
  unfold cutS cutU uw
  by_cases h0 : s.size = 0
  · rw [if_pos h0, if_neg (by omega)]
    exact cut_none s hs (by omega) (by omega) (by omega) w hU
  · rw [if_neg h0]
    by_cases hG : bt s ((s.size - 1 : Nat) : Int) = 71
    · rw [hG]
      exact cut_G s hs ⟨by omega, hG⟩ w hU
    · by_cases hM : bt s ((s.size - 1 : Nat) : Int) = 77
      · rw [hM]
        exact cut_M s hs (by omega) ⟨by omega, hM⟩ w hU
      · by_cases hK : bt s ((s.size - 1 : Nat) : Int) = 75
        · rw [hK]
          exact cut_K s hs (by omega) (by omega) ⟨by omega, hK⟩ w hU
        · rw [if_neg hK, if_neg hM, if_neg hG, if_neg (by omega)]
          exact cut_none s hs (by omega) (by omega) (by omega) w hU
end Go.Proofs.YtdeehklegeeanaaDoor
