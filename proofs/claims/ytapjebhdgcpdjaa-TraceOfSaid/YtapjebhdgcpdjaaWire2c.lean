/-
  The field that a string begins with, of any kind, by package wire. What lay below the heap's end stands.
-/
import Derived.Test.YtapjebhdgcpdjaaWire2b
namespace Go.Proofs.Ytapjebhdgcpdjaa
set_option linter.unusedVariables false
set_option linter.unusedSimpArgs false
open Go.ChangeShapes Go.WideShapes Go.ChangeAt Go.RowKit
attribute [-go_sem] run_index_string binOp_string_eql binOp_string_neq run_string_add_if run_slice_string_from_if run_slice_string_to_if
attribute [local go_sem] index_bt add_fits slice_from slice_to eql_str neq_str alloc_drewN setCell_drewN

theorem tk_text (s : ByteArray) : tk s 6 = (⟨6, 0, (tx s).1⟩, (tx s).2.1, (tx s).2.2) := by
  unfold tk tx
  rw [if_neg (by decide), if_neg (by decide), if_neg (by decide)]
  split
  · rfl
  · split
    · rfl
    · split <;> rfl

set_option maxRecDepth 100000 in
theorem take_any (s : ByteArray) (k : Int) (hs : s.size ≤ 140737488355328) (k0 : -9223372036854775808 ≤ k) (k1 : k ≤ 9223372036854775807) (w : World) :
    Calls Try.prog 110 #[.string s, .int .i64 k] w fun e w' => e = .returned (.tuple #[(tk s k).1.val, .int .i64 ((tk s k).2.1 : Nat), .int .i64 (tk s k).2.2]) ∧ Below w.heap.size w w' := by
  unfold Fd.val
  by_cases h5 : k = 5
  · subst h5
    have e : tk s 5 = (⟨5, (sv s).1, ⟨#[]⟩⟩, (sv s).2.1, (sv s).2.2) := by
      unfold tk
      rw [if_neg (by decide), if_neg (by decide), if_pos rfl]
    rw [e]
    have TV := Lib.hid (fun w => takeVar_any s (by unfold maxLen; omega) w)
    generalize sv s = q at *
    obtain ⟨n, c, x⟩ := q
    clear e
    simp only
    go_enter Try.func110, Try.ntmps110
    go_wp2_with fail
    refine (TV.out _).mono ?_
    rintro e w' ⟨rfl, rfl⟩
    go_wp2
    (try simp only [Exit.inBlock, Exit.then])
    refine bodyPost_ret (v := .tuple #[.agg #[.int .i64 5, .int .u64 n, .string ⟨#[]⟩], .int .i64 c, .int .i64 x]) (by simp [results, Try.results110, go_sem]) rfl ⟨rfl, ((Below.refl _ _).alloc (Nat.le_refl _) _).alloc (by simp) _⟩
  · by_cases h6 : k = 6
    · subst h6
      rw [tk_text]
      have TV := Lib.hid (fun w => takeText_any s hs w)
      generalize tx s = q at *
      obtain ⟨t, c, x⟩ := q
      simp only
      go_enter Try.func110, Try.ntmps110
      go_wp2_with fail
      refine (TV.out _).mono ?_
      rintro e w' ⟨rfl, rfl⟩
      go_wp2
      (try simp only [Exit.inBlock, Exit.then])
      refine bodyPost_ret (v := .tuple #[.agg #[.int .i64 6, .int .u64 0, .string t], .int .i64 c, .int .i64 x]) (by simp [results, Try.results110, go_sem]) rfl ⟨rfl, ((Below.refl _ _).alloc (Nat.le_refl _) _).alloc (by simp) _⟩
    · have g5 : (k == 5) = false := by simp [h5]
      have g6 : (k == 6) = false := by simp [h6]
      by_cases hk : k < 1 ∨ 6 < k
      · have e : tk s k = (⟨k, 0, ⟨#[]⟩⟩, 0, 6) := by unfold tk; rw [if_pos hk]
        rw [e]
        clear e h5 h6
        simp only
        rcases hk with hk | hk
        · go_enter Try.func110, Try.ntmps110
          go_wp2
          (try simp only [Exit.inBlock, Exit.then])
          refine bodyPost_ret (v := .tuple #[.agg #[.int .i64 k, .int .u64 0, .string ⟨#[]⟩], .int .i64 0, .int .i64 6]) (by simp [results, Try.results110, go_sem]) rfl ⟨rfl, ((Below.refl _ _).alloc (Nat.le_refl _) _).alloc (by simp) _⟩
        · go_enter Try.func110, Try.ntmps110
          go_wp2
          (try simp only [Exit.inBlock, Exit.then])
          refine bodyPost_ret (v := .tuple #[.agg #[.int .i64 k, .int .u64 0, .string ⟨#[]⟩], .int .i64 0, .int .i64 6]) (by simp [results, Try.results110, go_sem]) rfl ⟨rfl, ((Below.refl _ _).alloc (Nat.le_refl _) _).alloc (by simp) _⟩
      · have hk1 : 1 ≤ k := by omega
        have hk4 : k ≤ 4 := by omega
        have hw : wk k ≤ 8 := by unfold wk; (repeat' split) <;> omega
        have e : tk s k = (if s.size < wk k then (⟨k, 0, ⟨#[]⟩⟩, 0, 2) else (⟨k, be s (wk k), ⟨#[]⟩⟩, wk k, 0)) := by
          unfold tk; rw [if_neg hk, if_pos hk4]
        rw [e]
        have WD := Lib.hid (fun w => width_any k hk1 hk4 w)
        have TF := Lib.hid (fun w => takeFixed_any s (wk k) hw (by unfold maxLen; omega) w)
        clear e h5 h6 hk
        generalize wk k = z at *
        by_cases hz : s.size < z
        · rw [if_pos hz]
          rw [if_pos hz] at TF
          simp only
          go_enter Try.func110, Try.ntmps110
          go_wp2_with fail
          refine (WD.out _).mono ?_
          rintro e w' ⟨rfl, rfl⟩
          go_wp2_with fail
          refine (TF.out _).mono ?_
          rintro e w' ⟨rfl, rfl⟩
          go_wp2
          (try simp only [Exit.inBlock, Exit.then])
          refine bodyPost_ret (v := .tuple #[.agg #[.int .i64 k, .int .u64 0, .string ⟨#[]⟩], .int .i64 0, .int .i64 2]) (by simp [results, Try.results110, go_sem]) rfl ⟨rfl, ((Below.refl _ _).alloc (Nat.le_refl _) _).alloc (by simp) _⟩
        · rw [if_neg hz]
          rw [if_neg hz] at TF
          simp only
          generalize be s z = y at *
          go_enter Try.func110, Try.ntmps110
          go_wp2_with fail
          refine (WD.out _).mono ?_
          rintro e w' ⟨rfl, rfl⟩
          go_wp2_with fail
          refine (TF.out _).mono ?_
          rintro e w' ⟨rfl, rfl⟩
          go_wp2
          (try simp only [Exit.inBlock, Exit.then])
          refine bodyPost_ret (v := .tuple #[.agg #[.int .i64 k, .int .u64 y, .string ⟨#[]⟩], .int .i64 z, .int .i64 0]) (by simp [results, Try.results110, go_sem]) rfl ⟨rfl, ((Below.refl _ _).alloc (Nat.le_refl _) _).alloc (by simp) _⟩
end Go.Proofs.Ytapjebhdgcpdjaa
