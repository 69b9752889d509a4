/-
  Package twin: what a queue that nobody made answers; the law of it, walked: true for any rank and any number. No condition.
-/
import Derived.Test.YtiijlfpkninmgaaLives10
import Derived.Test.YtiijlfpkninmgaaTwinI1
namespace Go.Proofs.Ytiijlfpkninmgaa
set_option linter.unusedVariables false
set_option linter.unusedSimpArgs false
open Go.ChangeShapes Go.WideShapes Go.ChangeAt Go.RowKit
attribute [local go_sem] alloc_drewN setCell_drewN

theorem tlen_nil (w : World) :
    Calls Try.prog 45 #[.pointer none] w fun e w' => e = .returned (.int .i64 0) ∧ w = w' := by
  go_enter Try.func45, Try.ntmps45
  go_wp2
  go_ret
  exact ⟨rfl, rfl⟩
theorem tat_nil (i : Int) (hi : 0 ≤ i) (w : World) :
    Calls Try.prog 79 #[.pointer none, .int .i64 i] w fun e w' => e = .returned (.tuple #[.int .u64 0, .int .i64 0, .bool false]) ∧ w = w' := by
  have LN := Lib.hid (tlen_nil w)
  go_enter Try.func79, Try.ntmps79
  go_wp2_with (go_at_call 45; refine LN.out.mono ?_; rintro e w' ⟨rfl, rfl⟩)
  go_ret3
  exact ⟨rfl, rfl⟩
theorem tlast_nil (w : World) :
    Calls Try.prog 80 #[.pointer none] w fun e w' => e = .returned (.int .i64 0) ∧ w = w' := by
  have LN := Lib.hid (tlen_nil w)
  go_enter Try.func80, Try.ntmps80
  go_wp2
  refine wp_loop_rounds 1 ?_
  rw [rounds_succ]
  go_wp2_with (go_at_call 45; refine LN.out.mono ?_; rintro e w' ⟨rfl, rfl⟩)
  go_ret
  exact ⟨rfl, rfl⟩
theorem tremove_nil (i : Int) (hi : 0 ≤ i) (w : World) :
    Calls Try.prog 82 #[.pointer none, .int .i64 i] w fun e w' => e = .returned (.tuple #[.int .u64 0, .int .i64 0, .bool false]) ∧ w = w' := by
  have AT := Lib.hid (tat_nil i hi w)
  go_enter Try.func82, Try.ntmps82
  go_wp2_with (go_at_call 79; refine AT.out.mono ?_; rintro e w' ⟨rfl, rfl⟩)
  go_ret3
  exact ⟨rfl, rfl⟩
theorem tmin_nil (w : World) :
    Calls Try.prog 42 #[.pointer none] w fun e w' => e = .returned (.tuple #[.int .u64 0, .int .i64 0, .bool false]) ∧ w = w' := by
  have AT := Lib.hid (tat_nil 0 (Int.le_refl _) w)
  go_enter Try.func42, Try.ntmps42
  go_wp2_with (go_at_call 79; refine AT.out.mono ?_; rintro e w' ⟨rfl, rfl⟩)
  go_ret3
  exact ⟨rfl, rfl⟩
theorem tmax_nil (w : World) :
    Calls Try.prog 43 #[.pointer none] w fun e w' => e = .returned (.tuple #[.int .u64 0, .int .i64 0, .bool false]) ∧ w = w' := by
  have LS := Lib.hid (tlast_nil w)
  have AT := Lib.hid (tat_nil 0 (Int.le_refl _) w)
  go_enter Try.func43, Try.ntmps43
  go_wp2_with (first | (go_at_call 80; refine LS.out.mono ?_; rintro e w' ⟨rfl, rfl⟩) | (go_at_call 79; refine AT.out.mono ?_; rintro e w' ⟨rfl, rfl⟩))
  go_ret3
  exact ⟨rfl, rfl⟩
theorem tpopmin_nil (w : World) :
    Calls Try.prog 47 #[.pointer none] w fun e w' => e = .returned (.tuple #[.int .u64 0, .int .i64 0, .bool false]) ∧ w = w' := by
  have AT := Lib.hid (tremove_nil 0 (Int.le_refl _) w)
  go_enter Try.func47, Try.ntmps47
  go_wp2_with (go_at_call 82; refine AT.out.mono ?_; rintro e w' ⟨rfl, rfl⟩)
  go_ret3
  exact ⟨rfl, rfl⟩
theorem tpopmax_nil (w : World) :
    Calls Try.prog 48 #[.pointer none] w fun e w' => e = .returned (.tuple #[.int .u64 0, .int .i64 0, .bool false]) ∧ w = w' := by
  have LS := Lib.hid (tlast_nil w)
  have AT := Lib.hid (tremove_nil 0 (Int.le_refl _) w)
  go_enter Try.func48, Try.ntmps48
  go_wp2_with (first | (go_at_call 80; refine LS.out.mono ?_; rintro e w' ⟨rfl, rfl⟩) | (go_at_call 82; refine AT.out.mono ?_; rintro e w' ⟨rfl, rfl⟩))
  go_ret3
  exact ⟨rfl, rfl⟩
theorem tpush_nil (rk x : Int) (w : World) :
    Calls Try.prog 46 #[.pointer none, .int .u64 rk, .int .i64 x] w fun e w' => e = .returned (.bool false) ∧ ∃ n, w' = w.drewN n := by
  go_enter Try.func46, Try.ntmps46
  go_wp2
  go_quiet (fail)
  go_wp2
  go_ret
  exact ⟨rfl, _, rfl⟩
theorem tsqueeze_nil (rk x : Int) (w : World) :
    Calls Try.prog 49 #[.pointer none, .int .u64 rk, .int .i64 x] w fun e w' => e = .returned (.tuple #[.int .i64 x, .bool true]) ∧ ∃ n, w' = w.drewN n := by
  have PS := Lib.hid (tpush_nil rk x w)
  have MX := Lib.hid (fun n => tmax_nil (w.drewN n))
  go_enter Try.func49, Try.ntmps49
  go_wp2_with fail
  refine PS.out.mono ?_
  rintro e w2 ⟨rfl, n, rfl⟩
  go_wp2_with fail
  refine (MX.out n).mono ?_
  rintro e w3 ⟨rfl, rfl⟩
  go_wp2
  go_ret2
  exact ⟨rfl, n, rfl⟩
set_option maxRecDepth 100000 in
set_option maxHeartbeats 1000000 in
theorem walk_twinNobody (rk : Int) (q0 : 0 ≤ rk) (q1 : rk ≤ 18446744073709551615) (x : Int) (h0 : -9223372036854775808 ≤ x) (h1 : x ≤ 9223372036854775807) (w : World) :
    Calls Try.prog 11 #[.int .u64 rk, .int .i64 x] w fun e w' => e = .returned (.bool true) ∧ Below w.heap.size w w' := by
  go_enter Try.func11, Try.ntmps11
  go_wp2_with fail
  refine (tmin_nil _).mono ?_
  rintro e w' ⟨rfl, rfl⟩
  go_wp2_with fail
  refine (tmax_nil _).mono ?_
  rintro e w' ⟨rfl, rfl⟩
  go_wp2_with fail
  refine (tpopmin_nil _).mono ?_
  rintro e w' ⟨rfl, rfl⟩
  go_wp2_with fail
  refine (tpopmax_nil _).mono ?_
  rintro e w' ⟨rfl, rfl⟩
  go_wp2_with fail
  refine (tsqueeze_nil rk x _).mono ?_
  rintro e w' ⟨rfl, n, rfl⟩
  go_wp2_with fail
  refine (tpush_nil rk x _).mono ?_
  rintro e w' ⟨rfl, n2, rfl⟩
  go_wp2_with fail
  refine (tlen_nil _).mono ?_
  rintro e w' ⟨rfl, rfl⟩
  go_wp2_with fail
  refine (lives10 _).mono ?_
  rintro e w2 ⟨rfl, hb2⟩
  go_wp2
  go_ret
  exact ⟨rfl, (below_drewN (n + n2) (Below.refl _ w)).trans hb2⟩
end Go.Proofs.Ytiijlfpkninmgaa
