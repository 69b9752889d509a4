/-
  What codel.State's begin returns for any configuration, state and time. No condition but that the numbers are words.
-/
import Derived.Test.YtdokllignldbeaaCod1
namespace Go.Proofs.Ytdokllignldbeaa
set_option linter.unusedVariables false
set_option linter.unusedSimpArgs false
open Go.ChangeShapes Go.WideShapes Go.ChangeAt Go.RowKit
attribute [local go_sem] alloc_drewN setCell_drewN

set_option maxRecDepth 100000 in
set_option maxHeartbeats 2000000 in
theorem cod_begin (tg iv mt f n c l now : Int) (d : Bool) (h0 : 0 ≤ iv) (h1 : iv ≤ 2147483648) (n0 : 0 ≤ n) (n1 : n ≤ 18446744073709551615) (c0 : 0 ≤ c) (c1 : c ≤ 18446744073709551615) (l0 : 0 ≤ l) (l1 : l ≤ 18446744073709551615) (w0 : 0 ≤ now) (w1 : now ≤ 18446744073709551615) (w : World) :
    Calls Try.prog 89 #[.agg #[.int .u64 f, .int .u64 n, .int .u64 c, .int .u64 l, .bool d], .agg #[.int .u64 tg, .int .u64 iv, .int .u64 mt], .int .u64 now] w fun e w' => e = .returned (.agg #[.int .u64 f, .int .u64 (cap (now + prt iv (beg1 iv n c l now))), .int .u64 (beg1 iv n c l now), .int .u64 (beg1 iv n c l now), .bool true]) ∧ Below w.heap.size w w' := by
  have SB := Lib.hid (fun W => sat_sub c l c0 c1 l0 l1 W)
  have SN := Lib.hid (fun q => (sat_sub now n w0 w1 n0 n1 (w.drewN q)))
  obtain ⟨k0, k1⟩ := beg1_wd (iv := iv) (n := n) (now := now) c0 c1 l0
  have PT := Lib.hid (fun W => part_any iv (beg1 iv n c l now) h0 (by omega) (by omega) k1 W)
  obtain ⟨p0, p1⟩ := prt_bd iv (beg1 iv n c l now) h0 h1 (by omega)
  have AD := Lib.hid (fun W => sat_add now (prt iv (beg1 iv n c l now)) w0 w1 p0 (by omega) W)
  generalize prt iv (beg1 iv n c l now) = p at *
  generalize cap (now + p) = q at *
  have SX := Lib.hid (fun W => (sat_sub now n w0 w1 n0 n1 W).mono (R' := fun e w' => e = .returned (.int .u64 (sub0 now n)) ∧ w' = W) (by rintro e w' ⟨rfl, rfl⟩; exact ⟨rfl, rfl⟩))
  have w16 : IntKind.u64.wrap (16 * iv) = 16 * iv := by rw [IntKind.wrap_u64]; omega
  clear SN
  obtain ⟨b, hb⟩ : ∃ b, beg1 iv n c l now = b := ⟨_, rfl⟩
  rw [hb] at PT k0 k1 ⊢
  unfold beg1 at hb
  obtain ⟨s0, s1⟩ := sub0_bd (a := c) (b := l) c0 c1 l0
  obtain ⟨t0, t1⟩ := sub0_bd (a := now) (b := n) w0 w1 n0
  generalize sub0 c l = s at *
  generalize sub0 now n = t at *
  by_cases hs : s ≤ 1
  · rw [if_pos (Or.inl hs)] at hb
    subst hb
    have g1 : decide (s ≤ 1) = true := decide_eq_true hs
    go_enter Try.func89, Try.ntmps89
    go_wp2_with fail
    refine (SB.out _).mono ?_
    rintro e w' ⟨rfl, rfl⟩
    go_wp2
    go_quiet ((go_at_call 134; exact Calls.quiet_of_same (SX.out _)))
    all_goals
      go_wp2_with fail
      refine (PT.out _).mono ?_
      rintro e w' ⟨rfl, rfl⟩
      go_wp2_with fail
      refine (AD.out _).mono ?_
      rintro e w' ⟨rfl, rfl⟩
      go_wp2
      (try simp only [Exit.inBlock, Exit.then])
      refine bodyPost_ret (v := .agg #[.int .u64 f, .int .u64 q, .int .u64 1, .int .u64 1, .bool true]) (by simp [results, Try.results89, go_sem]) rfl ⟨rfl, ?_⟩
      repeat' (first | exact Below.refl _ _ | (with_reducible assumption) | refine below_drewN _ ?_ | refine Below.drew ?_ | refine Below.setCell ?_ (by simp) _ | refine Below.alloc ?_ (by simp; try omega) _)
  · by_cases ht : 16 * iv ≤ t
    · rw [if_pos (Or.inr ht)] at hb
      subst hb
      have g1 : decide (s ≤ 1) = false := decide_eq_false hs
      have g2 : decide (16 * iv ≤ t) = true := decide_eq_true ht
      go_enter Try.func89, Try.ntmps89
      go_wp2_with fail
      refine (SB.out _).mono ?_
      rintro e w' ⟨rfl, rfl⟩
      go_wp2
      go_quiet ((go_at_call 134; exact Calls.quiet_of_same (SX.out _)))
      all_goals
        go_wp2_with fail
        refine (PT.out _).mono ?_
        rintro e w' ⟨rfl, rfl⟩
        go_wp2_with fail
        refine (AD.out _).mono ?_
        rintro e w' ⟨rfl, rfl⟩
        go_wp2
        (try simp only [Exit.inBlock, Exit.then])
        refine bodyPost_ret (v := .agg #[.int .u64 f, .int .u64 q, .int .u64 1, .int .u64 1, .bool true]) (by simp [results, Try.results89, go_sem]) rfl ⟨rfl, ?_⟩
        repeat' (first | exact Below.refl _ _ | (with_reducible assumption) | refine below_drewN _ ?_ | refine Below.drew ?_ | refine Below.setCell ?_ (by simp) _ | refine Below.alloc ?_ (by simp; try omega) _)
    · rw [if_neg (by omega)] at hb
      subst hb
      have g1 : decide (s ≤ 1) = false := decide_eq_false hs
      have g2 : decide (16 * iv ≤ t) = false := decide_eq_false ht
      go_enter Try.func89, Try.ntmps89
      go_wp2_with fail
      refine (SB.out _).mono ?_
      rintro e w' ⟨rfl, rfl⟩
      go_wp2
      go_quiet ((go_at_call 134; exact Calls.quiet_of_same (SX.out _)))
      all_goals
        go_wp2_with fail
        refine (PT.out _).mono ?_
        rintro e w' ⟨rfl, rfl⟩
        go_wp2_with fail
        refine (AD.out _).mono ?_
        rintro e w' ⟨rfl, rfl⟩
        go_wp2
        (try simp only [Exit.inBlock, Exit.then])
        refine bodyPost_ret (v := .agg #[.int .u64 f, .int .u64 q, .int .u64 s, .int .u64 s, .bool true]) (by simp [results, Try.results89, go_sem]) rfl ⟨rfl, ?_⟩
        repeat' (first | exact Below.refl _ _ | (with_reducible assumption) | refine below_drewN _ ?_ | refine Below.drew ?_ | refine Below.setCell ?_ (by simp) _ | refine Below.alloc ?_ (by simp; try omega) _)
end Go.Proofs.Ytdokllignldbeaa
