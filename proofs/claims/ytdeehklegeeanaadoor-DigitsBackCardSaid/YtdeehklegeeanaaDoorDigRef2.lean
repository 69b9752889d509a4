/-
  The document's answer for layer 3, further: a number with a unit put and read, texts joined, lists told the same. What lay below the heap's end stands. No condition but that numbers are words and texts fit.
-/
import Derived.Test.YtdeehklegeeanaaDoorDigRef1
import Derived.Deep.QuietTactic
namespace Go.Proofs.YtdeehklegeeanaaDoor
set_option linter.unusedVariables false
set_option linter.unusedSimpArgs false
open Go.ChangeShapes Go.WideShapes Go.ChangeAt Go.RowKit
attribute [-go_sem] run_index_string binOp_string_eql binOp_string_neq run_string_add_if run_slice_string_from_if run_slice_string_to_if
attribute [local go_sem] index_bt add_fits slice_from slice_to eql_str neq_str alloc_drewN setCell_drewN

/-- What a string with a unit reads as. -/
noncomputable def rdu (s : ByteArray) : Int × Int :=
  let u := if s.size = 0 then 1 else uw (bt s ((s.size - 1 : Nat) : Int))
  let t := if 1 < u then s.extract 0 (s.size - 1) else s
  if (rd t).2 ≠ 0 then (0, (rd t).2) else if 18446744073709551615 / u < (rd t).1 then (0, 5) else ((rd t).1 * u, 0)
theorem uw_cases (c : Int) : uw c = 1 ∨ uw c = 1000 ∨ uw c = 1000000 ∨ uw c = 1000000000 := by
  unfold uw; (repeat' split) <;> simp
theorem rd_bd (s : ByteArray) : 0 ≤ (rd s).1 ∧ (rd s).1 ≤ 18446744073709551615 := by
  by_cases h : Formed s
  · by_cases h2 : 18446744073709551615 < nv s s.size
    · rw [rd_over s h h2]; exact ⟨by decide, by decide⟩
    · rw [rd_ok s h h2]; exact ⟨nv_nonneg s s.size h.2.1, by show nv s s.size ≤ _; omega⟩
  · rw [rd_form s h]; exact ⟨by decide, by decide⟩

/-- What is left behind the unit is read, and multiplied. -/
def after (r : Int × Int) (u : Int) : Int × Int := if r.2 ≠ 0 then (0, r.2) else if 18446744073709551615 / u < r.1 then (0, 5) else (r.1 * u, 0)

set_option maxRecDepth 100000 in
theorem refreadunit_any (s : ByteArray) (hs : s.size ≤ maxLen) (w : World) :
    Calls Tryd.prog 13 #[.string s] w fun e w' => e = .returned (.tuple #[.int .u64 (rdu s).1, .int .i64 (rdu s).2]) ∧ w = w' := by
  unfold maxLen at hs
  have hs' := hs
  by_cases h0 : s.size = 0
  · have e : rdu s = after (rd s) 1 := by
      unfold rdu after
      simp only [h0, if_true]
      rw [if_neg (by decide : ¬ (1 : Int) < 1)]
    rw [e]
    have g : decide (0 < s.size) = false := decide_eq_false (by omega)
    have RD := Lib.hid (fun w => refread_any s (by unfold maxLen; omega) w)
    obtain ⟨x0, x1⟩ := rd_bd s
    clear e
    generalize rd s = r at *
    obtain ⟨n, c⟩ := r
    simp only at x0 x1 RD
    have H0 := Lib.hid h0; clear h0
    unfold after
    by_cases hc : c = 0
    · subst hc
      rw [if_neg (by simp), if_neg (by show ¬ 18446744073709551615 / 1 < n; omega)]
      simp only
      rw [Int.mul_one]
      go_enter Tryd.func13, Tryd.ntmps13
      go_wp2_with fail
      refine (RD.out _).mono ?_
      rintro e w' ⟨rfl, rfl⟩
      go_wp2
      go_ret2
      exact ⟨rfl, rfl⟩
    · rw [if_pos hc]
      have gc : (c != 0) = true := by simp [hc]
      clear hc
      go_enter Tryd.func13, Tryd.ntmps13
      go_wp2_with fail
      refine (RD.out _).mono ?_
      rintro e w' ⟨rfl, rfl⟩
      go_wp2
      go_ret2
      exact ⟨rfl, rfl⟩
  · have ei : ((s.size - 1 : Nat) : Int) = (s.size : Int) - 1 := by omega
    have hpos : 0 < (s.size : Int) := by omega
    have hin : InS s ((s.size : Int) - 1) := ⟨by omega⟩
    have hto : ((s.size : Int) - 1).toNat = s.size - 1 := by omega
    have b := bt_bd s ((s.size : Int) - 1)
    have UN := Lib.hid (fun w => unit_any (bt s ((s.size : Int) - 1)) b.1 b.2 w)
    clear b
    rcases uw_cases (bt s ((s.size : Int) - 1)) with hu | hu | hu | hu
    · have e : rdu s = after (rd (s)) 1 := by
        unfold rdu after
        simp only [if_neg h0, ei, hu]
        rw [if_neg (by decide : ¬ (1 : Int) < 1)]
      rw [e]
      have RD := Lib.hid (fun w => refread_any (s) (by unfold maxLen; omega) w)
      obtain ⟨x0, x1⟩ := rd_bd (s)
      clear e
      generalize rd (s) = r at *
      obtain ⟨n, c⟩ := r
      simp only at x0 x1 RD
      rw [hu] at UN
      have H0 := Lib.hid h0; clear h0 hu
      unfold after
      by_cases hc : c = 0
      · subst hc
        rw [if_neg (by simp)]
        by_cases ho : 18446744073709551615 / 1 < n
        · rw [if_pos ho]
          exfalso
          omega
        · rw [if_neg ho]
          have ho' : n ≤ 18446744073709551615 := by omega
          clear ho
          go_enter Tryd.func13, Tryd.ntmps13
          go_wp2_with fail
          refine (UN.out _).mono ?_
          rintro e w' ⟨rfl, rfl⟩
          go_wp2_with fail
          refine (RD.out _).mono ?_
          rintro e w' ⟨rfl, rfl⟩
          go_wp2
          go_ret2
          exact ⟨by simp, rfl⟩
      · rw [if_pos hc]
        have gc : (c != 0) = true := by simp [hc]
        clear hc
        go_enter Tryd.func13, Tryd.ntmps13
        go_wp2_with fail
        refine (UN.out _).mono ?_
        rintro e w' ⟨rfl, rfl⟩
        go_wp2_with fail
        refine (RD.out _).mono ?_
        rintro e w' ⟨rfl, rfl⟩
        go_wp2
        go_ret2
        exact ⟨by simp, rfl⟩
    · have e : rdu s = after (rd (s.extract 0 (s.size - 1))) 1000 := by
        unfold rdu after
        simp only [if_neg h0, ei, hu]
        rw [if_pos (by decide : (1 : Int) < 1000)]
      rw [e]
      have RD := Lib.hid (fun w => refread_any (s.extract 0 (s.size - 1)) (by rw [size_ext _ _ _ (by omega)]; unfold maxLen; omega) w)
      obtain ⟨x0, x1⟩ := rd_bd (s.extract 0 (s.size - 1))
      clear e
      generalize rd (s.extract 0 (s.size - 1)) = r at *
      obtain ⟨n, c⟩ := r
      simp only at x0 x1 RD
      rw [hu] at UN
      have H0 := Lib.hid h0; clear h0 hu
      unfold after
      by_cases hc : c = 0
      · subst hc
        rw [if_neg (by simp)]
        by_cases ho : 18446744073709551615 / 1000 < n
        · rw [if_pos ho]
          have ho' : 18446744073709551 < n := by omega
          clear ho
          go_enter Tryd.func13, Tryd.ntmps13
          go_wp2_with fail
          refine (UN.out _).mono ?_
          rintro e w' ⟨rfl, rfl⟩
          go_wp2_with fail
          refine (RD.out _).mono ?_
          rintro e w' ⟨rfl, rfl⟩
          go_wp2
          go_ret2
          exact ⟨by simp, rfl⟩
        · rw [if_neg ho]
          have ho' : n ≤ 18446744073709551 := by omega
          clear ho
          go_enter Tryd.func13, Tryd.ntmps13
          go_wp2_with fail
          refine (UN.out _).mono ?_
          rintro e w' ⟨rfl, rfl⟩
          go_wp2_with fail
          refine (RD.out _).mono ?_
          rintro e w' ⟨rfl, rfl⟩
          go_wp2
          go_ret2
          exact ⟨by simp, rfl⟩
      · rw [if_pos hc]
        have gc : (c != 0) = true := by simp [hc]
        clear hc
        go_enter Tryd.func13, Tryd.ntmps13
        go_wp2_with fail
        refine (UN.out _).mono ?_
        rintro e w' ⟨rfl, rfl⟩
        go_wp2_with fail
        refine (RD.out _).mono ?_
        rintro e w' ⟨rfl, rfl⟩
        go_wp2
        go_ret2
        exact ⟨by simp, rfl⟩
    · have e : rdu s = after (rd (s.extract 0 (s.size - 1))) 1000000 := by
        unfold rdu after
        simp only [if_neg h0, ei, hu]
        rw [if_pos (by decide : (1 : Int) < 1000000)]
      rw [e]
      have RD := Lib.hid (fun w => refread_any (s.extract 0 (s.size - 1)) (by rw [size_ext _ _ _ (by omega)]; unfold maxLen; omega) w)
      obtain ⟨x0, x1⟩ := rd_bd (s.extract 0 (s.size - 1))
      clear e
      generalize rd (s.extract 0 (s.size - 1)) = r at *
      obtain ⟨n, c⟩ := r
      simp only at x0 x1 RD
      rw [hu] at UN
      have H0 := Lib.hid h0; clear h0 hu
      unfold after
      by_cases hc : c = 0
      · subst hc
        rw [if_neg (by simp)]
        by_cases ho : 18446744073709551615 / 1000000 < n
        · rw [if_pos ho]
          have ho' : 18446744073709 < n := by omega
          clear ho
          go_enter Tryd.func13, Tryd.ntmps13
          go_wp2_with fail
          refine (UN.out _).mono ?_
          rintro e w' ⟨rfl, rfl⟩
          go_wp2_with fail
          refine (RD.out _).mono ?_
          rintro e w' ⟨rfl, rfl⟩
          go_wp2
          go_ret2
          exact ⟨by simp, rfl⟩
        · rw [if_neg ho]
          have ho' : n ≤ 18446744073709 := by omega
          clear ho
          go_enter Tryd.func13, Tryd.ntmps13
          go_wp2_with fail
          refine (UN.out _).mono ?_
          rintro e w' ⟨rfl, rfl⟩
          go_wp2_with fail
          refine (RD.out _).mono ?_
          rintro e w' ⟨rfl, rfl⟩
          go_wp2
          go_ret2
          exact ⟨by simp, rfl⟩
      · rw [if_pos hc]
        have gc : (c != 0) = true := by simp [hc]
        clear hc
        go_enter Tryd.func13, Tryd.ntmps13
        go_wp2_with fail
        refine (UN.out _).mono ?_
        rintro e w' ⟨rfl, rfl⟩
        go_wp2_with fail
        refine (RD.out _).mono ?_
        rintro e w' ⟨rfl, rfl⟩
        go_wp2
        go_ret2
        exact ⟨by simp, rfl⟩
    · have e : rdu s = after (rd (s.extract 0 (s.size - 1))) 1000000000 := by
        unfold rdu after
        simp only [if_neg h0, ei, hu]
        rw [if_pos (by decide : (1 : Int) < 1000000000)]
      rw [e]
      have RD := Lib.hid (fun w => refread_any (s.extract 0 (s.size - 1)) (by rw [size_ext _ _ _ (by omega)]; unfold maxLen; omega) w)
      obtain ⟨x0, x1⟩ := rd_bd (s.extract 0 (s.size - 1))
      clear e
      generalize rd (s.extract 0 (s.size - 1)) = r at *
      obtain ⟨n, c⟩ := r
      simp only at x0 x1 RD
      rw [hu] at UN
      have H0 := Lib.hid h0; clear h0 hu
      unfold after
      by_cases hc : c = 0
      · subst hc
        rw [if_neg (by simp)]
        by_cases ho : 18446744073709551615 / 1000000000 < n
        · rw [if_pos ho]
          have ho' : 18446744073 < n := by omega
          clear ho
          go_enter Tryd.func13, Tryd.ntmps13
          go_wp2_with fail
          refine (UN.out _).mono ?_
          rintro e w' ⟨rfl, rfl⟩
          go_wp2_with fail
          refine (RD.out _).mono ?_
          rintro e w' ⟨rfl, rfl⟩
          go_wp2
          go_ret2
          exact ⟨by simp, rfl⟩
        · rw [if_neg ho]
          have ho' : n ≤ 18446744073 := by omega
          clear ho
          go_enter Tryd.func13, Tryd.ntmps13
          go_wp2_with fail
          refine (UN.out _).mono ?_
          rintro e w' ⟨rfl, rfl⟩
          go_wp2_with fail
          refine (RD.out _).mono ?_
          rintro e w' ⟨rfl, rfl⟩
          go_wp2
          go_ret2
          exact ⟨by simp, rfl⟩
      · rw [if_pos hc]
        have gc : (c != 0) = true := by simp [hc]
        clear hc
        go_enter Tryd.func13, Tryd.ntmps13
        go_wp2_with fail
        refine (UN.out _).mono ?_
        rintro e w' ⟨rfl, rfl⟩
        go_wp2_with fail
        refine (RD.out _).mono ?_
        rintro e w' ⟨rfl, rfl⟩
        go_wp2
        go_ret2
        exact ⟨by simp, rfl⟩
end Go.Proofs.YtdeehklegeeanaaDoor
