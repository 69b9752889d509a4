/-
  What package codel's parts return for any configuration, state and times: Check, follow, begin, again; and whether a configuration may be by the document's answer. No condition but that the numbers are words.
-/
import Derived.Test.YtdokllignldbeaaRoot2
import Derived.Deep.RegionHeld3
namespace Go.Proofs.Ytdokllignldbeaa
set_option linter.unusedVariables false
set_option linter.unusedSimpArgs false
open Go.ChangeShapes Go.WideShapes Go.ChangeAt Go.RowKit
attribute [local go_sem] alloc_drewN setCell_drewN

theorem prt_bd (n c : Int) (h0 : 0 ≤ n) (h1 : n ≤ 2147483648) (c0 : 0 ≤ c) : 0 ≤ prt n c ∧ prt n c ≤ 2147483648 := by
  obtain ⟨b0, b1⟩ := bas_bd h0
  obtain ⟨s0, s1⟩ := sqb b0 b1
  unfold prt
  split
  · exact ⟨b0, b1⟩
  · refine ⟨isq_nonneg _, ?_⟩
    by_cases hc : isq (bas n * bas n / c) ≤ 2147483648
    · exact hc
    · exfalso
      have q0 : 0 ≤ bas n * bas n / c := Int.ediv_nonneg s0 c0
      have := (le_isq (m := 2147483649) q0 (by omega)).1 (by omega)
      have e1 : bas n * bas n / c ≤ bas n * bas n := Int.ediv_le_self _ s0
      omega
/-- Whether a configuration may be. -/
def cok (iv : Int) : Bool := decide (1 ≤ iv ∧ iv ≤ 2147483648)
theorem cok_iff {iv : Int} : cok iv = true ↔ 1 ≤ iv ∧ iv ≤ 2147483648 := by unfold cok; exact decide_eq_true_iff

theorem cod_check (tg iv mt : Int) (h0 : 0 ≤ iv) (w : World) :
    Calls Try.prog 43 #[.agg #[.int .u64 tg, .int .u64 iv, .int .u64 mt]] w fun e w' => e = .returned (.int .i64 (if cok iv = true then 0 else 6)) ∧ w' = w.alloc (.cells #[.int .u64 tg, .int .u64 iv, .int .u64 mt] 77) := by
  by_cases h : cok iv = true
  · rw [if_pos h]
    obtain ⟨a, b⟩ := cok_iff.1 h
    clear h
    go_enter Try.func43, Try.ntmps43
    go_wp2
    go_ret
    exact ⟨rfl, rfl⟩
  · rw [if_neg h]
    have h' : ¬ _ := fun k => h (cok_iff.2 k)
    clear h
    by_cases h1 : iv < 1
    · clear h'
      go_enter Try.func43, Try.ntmps43
      go_wp2
      go_ret
      exact ⟨rfl, rfl⟩
    · have h2 : 2147483648 < iv := by omega
      clear h'
      go_enter Try.func43, Try.ntmps43
      go_wp2
      go_ret
      exact ⟨rfl, rfl⟩
theorem cod_may (tg iv mt : Int) (h0 : 0 ≤ iv) (w : World) :
    Calls Try.prog 42 #[.agg #[.int .u64 tg, .int .u64 iv, .int .u64 mt]] w fun e w' => e = .returned (.bool (cok iv)) ∧ w' = w.alloc (.cells #[.int .u64 tg, .int .u64 iv, .int .u64 mt] 71) := by
  by_cases h : cok iv = true
  · rw [h]
    obtain ⟨a, b⟩ := cok_iff.1 h
    clear h
    have a' : decide (iv < 1) = false := decide_eq_false (by omega)
    go_enter Try.func42, Try.ntmps42
    go_wp2
    go_ret
    exact ⟨by first | rfl | (show Ending.returned (Value.bool (decide (iv ≤ 2147483648))) = _; rw [decide_eq_true (by omega)]), rfl⟩
  · have h' : ¬ _ := fun k => h (cok_iff.2 k)
    rw [Bool.not_eq_true] at h
    rw [h]
    clear h
    by_cases h1 : iv < 1
    · clear h'
      go_enter Try.func42, Try.ntmps42
      go_wp2
      go_ret
      exact ⟨rfl, rfl⟩
    · have h2 : 2147483648 < iv := by omega
      clear h'
      go_enter Try.func42, Try.ntmps42
      go_wp2
      go_ret
      exact ⟨by first | rfl | (show Ending.returned (Value.bool (decide (iv ≤ 2147483648))) = _; rw [decide_eq_false (by omega)]), rfl⟩

/-- From when on it is time, behind a packet. -/
def fol1 (iv f now : Int) (late : Bool) : Int := if late = true then (if f = 0 then cap (now + iv) else f) else 0
theorem fol1_wd {iv f now : Int} (late : Bool) (h0 : 0 ≤ iv) (f0 : 0 ≤ f) (f1 : f ≤ 18446744073709551615) (n0 : 0 ≤ now) : 0 ≤ fol1 iv f now late ∧ fol1 iv f now late ≤ 18446744073709551615 := by
  unfold fol1
  have := cap_wd (show 0 ≤ now + iv by omega)
  split
  · split
    · exact this
    · exact ⟨f0, f1⟩
  · exact ⟨by decide, by decide⟩
/-- How many, as a row begins. -/
def beg1 (iv n c l now : Int) : Int := if sub0 c l ≤ 1 ∨ 16 * iv ≤ sub0 now n then 1 else sub0 c l
theorem sub0_bd {a b : Int} (h0 : 0 ≤ a) (h1 : a ≤ 18446744073709551615) (g0 : 0 ≤ b) : 0 ≤ sub0 a b ∧ sub0 a b ≤ 18446744073709551615 := by unfold sub0; split <;> omega
theorem beg1_wd {iv n c l now : Int} (c0 : 0 ≤ c) (c1 : c ≤ 18446744073709551615) (l0 : 0 ≤ l) : 1 ≤ beg1 iv n c l now ∧ beg1 iv n c l now ≤ 18446744073709551615 := by
  have := sub0_bd c0 c1 l0
  unfold beg1
  split <;> omega

set_option maxRecDepth 100000 in
theorem cod_follow (tg iv mt f n c l now : Int) (d late : Bool) (h0 : 0 ≤ iv) (h1 : iv ≤ 18446744073709551615) (n0 : 0 ≤ now) (n1 : now ≤ 18446744073709551615) (w : World) :
    Calls Try.prog 88 #[.agg #[.int .u64 f, .int .u64 n, .int .u64 c, .int .u64 l, .bool d], .agg #[.int .u64 tg, .int .u64 iv, .int .u64 mt], .int .u64 now, .bool late] w fun e w' => e = .returned (.agg #[.int .u64 (fol1 iv f now late), .int .u64 n, .int .u64 c, .int .u64 l, .bool d]) ∧ Below w.heap.size w w' := by
  unfold fol1
  cases late with
  | false =>
    rw [if_neg (by decide)]
    go_enter Try.func88, Try.ntmps88
    go_wp2
    (try simp only [Exit.inBlock, Exit.then])
    refine bodyPost_ret (v := .agg #[.int .u64 0, .int .u64 n, .int .u64 c, .int .u64 l, .bool d]) (by simp [results, Try.results88, go_sem]) rfl ⟨rfl, ?_⟩
    repeat' (first | exact Below.refl _ _ | refine below_drewN _ ?_ | refine Below.drew ?_ | refine Below.setCell ?_ (by simp) _ | refine Below.alloc ?_ (by simp; try omega) _)
  | true =>
    rw [if_pos rfl]
    by_cases hf : f = 0
    · subst hf
      rw [if_pos rfl]
      have AD := Lib.hid (fun W => sat_add now iv n0 n1 h0 h1 W)
      generalize cap (now + iv) = r at *
      go_enter Try.func88, Try.ntmps88
      go_wp2_with fail
      refine (AD.out _).mono ?_
      rintro e w' ⟨rfl, rfl⟩
      go_wp2
      (try simp only [Exit.inBlock, Exit.then])
      refine bodyPost_ret (v := .agg #[.int .u64 r, .int .u64 n, .int .u64 c, .int .u64 l, .bool d]) (by simp [results, Try.results88, go_sem]) rfl ⟨rfl, ?_⟩
      repeat' (first | exact Below.refl _ _ | refine below_drewN _ ?_ | refine Below.drew ?_ | refine Below.setCell ?_ (by simp) _ | refine Below.alloc ?_ (by simp; try omega) _)
    · rw [if_neg hf]
      have g : (f == 0) = false := by simp [hf]
      go_enter Try.func88, Try.ntmps88
      go_wp2
      (try simp only [Exit.inBlock, Exit.then])
      refine bodyPost_ret (v := .agg #[.int .u64 f, .int .u64 n, .int .u64 c, .int .u64 l, .bool d]) (by simp [results, Try.results88, go_sem]) rfl ⟨rfl, ?_⟩
      repeat' (first | exact Below.refl _ _ | refine below_drewN _ ?_ | refine Below.drew ?_ | refine Below.setCell ?_ (by simp) _ | refine Below.alloc ?_ (by simp; try omega) _)

set_option maxRecDepth 100000 in
set_option maxHeartbeats 1000000 in
theorem cod_again (tg iv mt f n c l : Int) (d : Bool) (h0 : 0 ≤ iv) (h1 : iv ≤ 2147483648) (n0 : 0 ≤ n) (n1 : n ≤ 18446744073709551615) (c0 : 0 ≤ c) (c1 : c ≤ 18446744073709551615) (w : World) :
    Calls Try.prog 90 #[.agg #[.int .u64 f, .int .u64 n, .int .u64 c, .int .u64 l, .bool d], .agg #[.int .u64 tg, .int .u64 iv, .int .u64 mt]] w fun e w' => e = .returned (.agg #[.int .u64 f, .int .u64 (cap (n + prt iv (cap (c + 1)))), .int .u64 (cap (c + 1)), .int .u64 l, .bool d]) ∧ Below w.heap.size w w' := by
  have AD := Lib.hid (fun W => sat_add c 1 c0 c1 (by decide) (by decide) W)
  obtain ⟨k0, k1⟩ := cap_wd (show 0 ≤ c + 1 by omega)
  generalize cap (c + 1) = r at *
  have PT := Lib.hid (fun W => part_any iv r h0 (by omega) k0 k1 W)
  obtain ⟨p0, p1⟩ := prt_bd iv r h0 h1 k0
  generalize prt iv r = p at *
  have AE := Lib.hid (fun W => sat_add n p n0 n1 p0 (by omega) W)
  generalize cap (n + p) = q at *
  go_enter Try.func90, Try.ntmps90
  go_wp2_with fail
  refine (AD.out _).mono ?_
  rintro e w' ⟨rfl, rfl⟩
  go_wp2
  go_region_with (first | (go_at_call 141; refine (PT.out _).mono ?_; rintro e w2 ⟨rfl, rfl⟩) | (go_at_call 77; refine (AE.out _).mono ?_; rintro e w3 ⟨rfl, rfl⟩))
  all_goals
    go_wp2
    (try simp only [Exit.inBlock, Exit.then])
    refine bodyPost_ret (v := .agg #[.int .u64 f, .int .u64 q, .int .u64 r, .int .u64 l, .bool d]) (by simp [results, Try.results90, go_sem]) rfl ⟨rfl, ?_⟩
    repeat' (first | exact Below.refl _ _ | refine below_drewN _ ?_ | refine Below.drew ?_ | refine Below.setCell ?_ (by simp) _ | refine Below.alloc ?_ (by simp; try omega) _)
end Go.Proofs.Ytdokllignldbeaa
