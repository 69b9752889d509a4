/-
  The number of a decimal with a unit, by package digits. What lay below the heap's end stands. No condition but that texts are short, and that the package's variables hold what they hold at the start.
-/
import Derived.Test.YtdeehklegeeanaaDoorDigUnit
import Derived.Test.YtdeehklegeeanaaDoorDigRef2
namespace Go.Proofs.YtdeehklegeeanaaDoor
set_option linter.unusedVariables false
set_option linter.unusedSimpArgs false
open Go.ChangeShapes Go.WideShapes Go.ChangeAt Go.RowKit
attribute [-go_sem] run_index_string binOp_string_eql binOp_string_neq run_string_add_if run_slice_string_from_if run_slice_string_to_if
attribute [local go_sem] index_bt add_fits slice_from slice_to eql_str neq_str alloc_drewN setCell_drewN

set_option maxRecDepth 100000 in
theorem ru_1 (s t : ByteArray) (n c : Int) (x0 : 0 ≤ n) (x1 : n ≤ 18446744073709551615) (w : World)
    (CU : Hid (Calls Tryd.prog 40 #[.string s] w fun e w' => e = .returned (.tuple #[.string t, .int .u64 1]) ∧ Below w.heap.size w w'))
    (RD : Hid (∀ w1 : World, Below w.heap.size w w1 → Calls Tryd.prog 10 #[.string t] w1 fun e w' => e = .returned (.tuple #[.int .u64 n, .int .i64 c]) ∧ Below w1.heap.size w1 w')) :
    Calls Tryd.prog 12 #[.string s] w fun e w' => e = .returned (.tuple #[.int .u64 (after (n, c) 1).1, .int .i64 (after (n, c) 1).2]) ∧ Below w.heap.size w w' := by
  unfold after
  simp only
  by_cases hc : c = 0
  · subst hc
    rw [if_neg (by simp)]
    by_cases ho : 18446744073709551615 / 1 < n
    · rw [if_pos ho]
      have ho' : 18446744073709551615 < n := by omega
      clear ho
      go_enter Tryd.func12, Tryd.ntmps12
      go_wp2_with fail
      refine CU.out.mono ?_
      rintro e1 w1 ⟨rfl, b1⟩
      go_wp2_with fail
      refine (RD.out w1 b1).mono ?_
      rintro e2 w2 ⟨rfl, b2⟩
      go_wp2
      go_ret2
      exact ⟨by simp, Below.go b1 b2⟩
    · rw [if_neg ho]
      have ho' : n ≤ 18446744073709551615 := by omega
      clear ho
      go_enter Tryd.func12, Tryd.ntmps12
      go_wp2_with fail
      refine CU.out.mono ?_
      rintro e1 w1 ⟨rfl, b1⟩
      go_wp2_with fail
      refine (RD.out w1 b1).mono ?_
      rintro e2 w2 ⟨rfl, b2⟩
      go_wp2
      go_ret2
      exact ⟨by simp, Below.go b1 b2⟩
  · rw [if_pos hc]
    have gc : (c != 0) = true := by simp [hc]
    clear hc
    go_enter Tryd.func12, Tryd.ntmps12
    go_wp2_with fail
    refine CU.out.mono ?_
    rintro e1 w1 ⟨rfl, b1⟩
    go_wp2_with fail
    refine (RD.out w1 b1).mono ?_
    rintro e2 w2 ⟨rfl, b2⟩
    go_wp2
    go_ret2
    exact ⟨by simp, Below.go b1 b2⟩
set_option maxRecDepth 100000 in
theorem ru_1000 (s t : ByteArray) (n c : Int) (x0 : 0 ≤ n) (x1 : n ≤ 18446744073709551615) (w : World)
    (CU : Hid (Calls Tryd.prog 40 #[.string s] w fun e w' => e = .returned (.tuple #[.string t, .int .u64 1000]) ∧ Below w.heap.size w w'))
    (RD : Hid (∀ w1 : World, Below w.heap.size w w1 → Calls Tryd.prog 10 #[.string t] w1 fun e w' => e = .returned (.tuple #[.int .u64 n, .int .i64 c]) ∧ Below w1.heap.size w1 w')) :
    Calls Tryd.prog 12 #[.string s] w fun e w' => e = .returned (.tuple #[.int .u64 (after (n, c) 1000).1, .int .i64 (after (n, c) 1000).2]) ∧ Below w.heap.size w w' := by
  unfold after
  simp only
  by_cases hc : c = 0
  · subst hc
    rw [if_neg (by simp)]
    by_cases ho : 18446744073709551615 / 1000 < n
    · rw [if_pos ho]
      have ho' : 18446744073709551 < n := by omega
      clear ho
      go_enter Tryd.func12, Tryd.ntmps12
      go_wp2_with fail
      refine CU.out.mono ?_
      rintro e1 w1 ⟨rfl, b1⟩
      go_wp2_with fail
      refine (RD.out w1 b1).mono ?_
      rintro e2 w2 ⟨rfl, b2⟩
      go_wp2
      go_ret2
      exact ⟨by simp, Below.go b1 b2⟩
    · rw [if_neg ho]
      have ho' : n ≤ 18446744073709551 := by omega
      clear ho
      go_enter Tryd.func12, Tryd.ntmps12
      go_wp2_with fail
      refine CU.out.mono ?_
      rintro e1 w1 ⟨rfl, b1⟩
      go_wp2_with fail
      refine (RD.out w1 b1).mono ?_
      rintro e2 w2 ⟨rfl, b2⟩
      go_wp2
      go_ret2
      exact ⟨by simp, Below.go b1 b2⟩
  · rw [if_pos hc]
    have gc : (c != 0) = true := by simp [hc]
    clear hc
    go_enter Tryd.func12, Tryd.ntmps12
    go_wp2_with fail
    refine CU.out.mono ?_
    rintro e1 w1 ⟨rfl, b1⟩
    go_wp2_with fail
    refine (RD.out w1 b1).mono ?_
    rintro e2 w2 ⟨rfl, b2⟩
    go_wp2
    go_ret2
    exact ⟨by simp, Below.go b1 b2⟩
set_option maxRecDepth 100000 in
theorem ru_1000000 (s t : ByteArray) (n c : Int) (x0 : 0 ≤ n) (x1 : n ≤ 18446744073709551615) (w : World)
    (CU : Hid (Calls Tryd.prog 40 #[.string s] w fun e w' => e = .returned (.tuple #[.string t, .int .u64 1000000]) ∧ Below w.heap.size w w'))
    (RD : Hid (∀ w1 : World, Below w.heap.size w w1 → Calls Tryd.prog 10 #[.string t] w1 fun e w' => e = .returned (.tuple #[.int .u64 n, .int .i64 c]) ∧ Below w1.heap.size w1 w')) :
    Calls Tryd.prog 12 #[.string s] w fun e w' => e = .returned (.tuple #[.int .u64 (after (n, c) 1000000).1, .int .i64 (after (n, c) 1000000).2]) ∧ Below w.heap.size w w' := by
  unfold after
  simp only
  by_cases hc : c = 0
  · subst hc
    rw [if_neg (by simp)]
    by_cases ho : 18446744073709551615 / 1000000 < n
    · rw [if_pos ho]
      have ho' : 18446744073709 < n := by omega
      clear ho
      go_enter Tryd.func12, Tryd.ntmps12
      go_wp2_with fail
      refine CU.out.mono ?_
      rintro e1 w1 ⟨rfl, b1⟩
      go_wp2_with fail
      refine (RD.out w1 b1).mono ?_
      rintro e2 w2 ⟨rfl, b2⟩
      go_wp2
      go_ret2
      exact ⟨by simp, Below.go b1 b2⟩
    · rw [if_neg ho]
      have ho' : n ≤ 18446744073709 := by omega
      clear ho
      go_enter Tryd.func12, Tryd.ntmps12
      go_wp2_with fail
      refine CU.out.mono ?_
      rintro e1 w1 ⟨rfl, b1⟩
      go_wp2_with fail
      refine (RD.out w1 b1).mono ?_
      rintro e2 w2 ⟨rfl, b2⟩
      go_wp2
      go_ret2
      exact ⟨by simp, Below.go b1 b2⟩
  · rw [if_pos hc]
    have gc : (c != 0) = true := by simp [hc]
    clear hc
    go_enter Tryd.func12, Tryd.ntmps12
    go_wp2_with fail
    refine CU.out.mono ?_
    rintro e1 w1 ⟨rfl, b1⟩
    go_wp2_with fail
    refine (RD.out w1 b1).mono ?_
    rintro e2 w2 ⟨rfl, b2⟩
    go_wp2
    go_ret2
    exact ⟨by simp, Below.go b1 b2⟩
set_option maxRecDepth 100000 in
theorem ru_1000000000 (s t : ByteArray) (n c : Int) (x0 : 0 ≤ n) (x1 : n ≤ 18446744073709551615) (w : World)
    (CU : Hid (Calls Tryd.prog 40 #[.string s] w fun e w' => e = .returned (.tuple #[.string t, .int .u64 1000000000]) ∧ Below w.heap.size w w'))
    (RD : Hid (∀ w1 : World, Below w.heap.size w w1 → Calls Tryd.prog 10 #[.string t] w1 fun e w' => e = .returned (.tuple #[.int .u64 n, .int .i64 c]) ∧ Below w1.heap.size w1 w')) :
    Calls Tryd.prog 12 #[.string s] w fun e w' => e = .returned (.tuple #[.int .u64 (after (n, c) 1000000000).1, .int .i64 (after (n, c) 1000000000).2]) ∧ Below w.heap.size w w' := by
  unfold after
  simp only
  by_cases hc : c = 0
  · subst hc
    rw [if_neg (by simp)]
    by_cases ho : 18446744073709551615 / 1000000000 < n
    · rw [if_pos ho]
      have ho' : 18446744073 < n := by omega
      clear ho
      go_enter Tryd.func12, Tryd.ntmps12
      go_wp2_with fail
      refine CU.out.mono ?_
      rintro e1 w1 ⟨rfl, b1⟩
      go_wp2_with fail
      refine (RD.out w1 b1).mono ?_
      rintro e2 w2 ⟨rfl, b2⟩
      go_wp2
      go_ret2
      exact ⟨by simp, Below.go b1 b2⟩
    · rw [if_neg ho]
      have ho' : n ≤ 18446744073 := by omega
      clear ho
      go_enter Tryd.func12, Tryd.ntmps12
      go_wp2_with fail
      refine CU.out.mono ?_
      rintro e1 w1 ⟨rfl, b1⟩
      go_wp2_with fail
      refine (RD.out w1 b1).mono ?_
      rintro e2 w2 ⟨rfl, b2⟩
      go_wp2
      go_ret2
      exact ⟨by simp, Below.go b1 b2⟩
  · rw [if_pos hc]
    have gc : (c != 0) = true := by simp [hc]
    clear hc
    go_enter Tryd.func12, Tryd.ntmps12
    go_wp2_with fail
    refine CU.out.mono ?_
    rintro e1 w1 ⟨rfl, b1⟩
    go_wp2_with fail
    refine (RD.out w1 b1).mono ?_
    rintro e2 w2 ⟨rfl, b2⟩
    go_wp2
    go_ret2
    exact ⟨by simp, Below.go b1 b2⟩
theorem rdu_after (s : ByteArray) : rdu s = after (rd (cutS s)) (cutU s) := rfl
theorem cutS_size (s : ByteArray) : (cutS s).size ≤ s.size := by
  unfold cutS
  by_cases h : (1 : Int) < (if s.size = 0 then 1 else uw (bt s ((s.size - 1 : Nat) : Int)))
  · rw [if_pos h, size_ext _ _ _ (by omega)]; omega
  · rw [if_neg h]; exact Nat.le_refl _
theorem cutU_cases (s : ByteArray) : cutU s = 1 ∨ cutU s = 1000 ∨ cutU s = 1000000 ∨ cutU s = 1000000000 := by
  unfold cutU
  split
  · simp
  · exact uw_cases _
theorem readunit_any (s : ByteArray) (hs : s.size ≤ 1000000) (te : TypeId) (pe : Value) (w : World) (hU : UnitsAt w) (hE : w.cell? ⟨3, 0, none⟩ = some (.iface te pe)) (hw : 3 < w.heap.size) :
    Calls Tryd.prog 12 #[.string s] w fun e w' => e = .returned (.tuple #[.int .u64 (rdu s).1, .int .i64 (rdu s).2]) ∧ Below w.heap.size w w' := by
  have CU := cut_any s hs w hU
  have hl := cutS_size s
  have RD : ∀ w1 : World, Below w.heap.size w w1 → Calls Tryd.prog 10 #[.string (cutS s)] w1 fun e w' => e = .returned (.tuple #[.int .u64 (rd (cutS s)).1, .int .i64 (rd (cutS s)).2]) ∧ Below w1.heap.size w1 w' := fun w1 b1 =>
    read_any (cutS s) (by omega) te pe w1 (by rw [b1.cell (p := ⟨3, 0, none⟩) hw]; exact hE) (Nat.lt_of_lt_of_le hw b1.size)
  rw [rdu_after]
  obtain ⟨x0, x1⟩ := rd_bd (cutS s)
  generalize cutS s = t at *
  generalize rd t = r at *
  obtain ⟨n, c⟩ := r
  rcases cutU_cases s with h | h | h | h <;> rw [h] at CU ⊢
  · exact ru_1 s t n c x0 x1 w CU RD
  · exact ru_1000 s t n c x0 x1 w CU RD
  · exact ru_1000000 s t n c x0 x1 w CU RD
  · exact ru_1000000000 s t n c x0 x1 w CU RD
end Go.Proofs.YtdeehklegeeanaaDoor
