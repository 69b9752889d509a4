/-
  What red.Step, and the document's answer for it, return for any configuration and state. No condition but that the numbers are words.
-/
import Derived.Test.YtdokllignldbeaaRed1
import Derived.Deep.RegionHeld3
namespace Go.Proofs.Ytdokllignldbeaa
set_option linter.unusedVariables false
set_option linter.unusedSimpArgs false
open Go.ChangeShapes Go.WideShapes Go.ChangeAt Go.RowKit
attribute [local go_sem] alloc_drewN setCell_drewN

theorem below_cells (w : World) (o : Obj) : Below w.heap.size w (w.alloc o) := (Below.refl _ w).alloc (Nat.le_refl _) _

set_option maxRecDepth 100000 in
set_option maxHeartbeats 2000000 in
theorem red_step (lo hi mo sw mean count x : Int) (l0 : 0 ≤ lo) (g0 : 0 ≤ hi) (m0 : 0 ≤ mo) (s0 : -9223372036854775808 ≤ sw) (s1 : sw ≤ 9223372036854775807) (n0 : 0 ≤ mean) (n1 : mean ≤ 18446744073709551615) (c0 : 0 ≤ count) (c1 : count ≤ 18446744073709551615) (x0 : 0 ≤ x) (x1 : x ≤ 18446744073709551615) (w : World) :
    Calls Try.prog 36 #[.agg #[.int .u64 lo, .int .u64 hi, .int .u64 mo, .int .i64 sw], .agg #[.int .u64 mean, .int .u64 count], .int .u64 x] w fun e w' => e = .returned (.tuple #[.agg #[.int .u64 (rst lo hi mo sw mean count x).1, .int .u64 (rst lo hi mo sw mean count x).2.1], .bool (rst lo hi mo sw mean count x).2.2]) ∧ Below w.heap.size w w' := by
  have CK := Lib.hid (fun W => red_check lo hi mo sw l0 g0 m0 W)
  unfold rst
  by_cases hok : rok lo hi mo sw = true
  · have PT := Lib.hid (fun m h1 h2 W => red_part lo hi mo sw m hok l0 h1 h2 W)
    have PB := Lib.hid (fun m h1 h2 => (rp_bd hok l0 h1 h2 : _ ∧ _ ∧ 0 ≤ rp lo hi mo m ∧ rp lo hi mo m ≤ 65536))
    rw [if_pos hok]
    rw [if_pos hok] at CK
    obtain ⟨a, b, c, d, e, f⟩ := rok_iff.1 hok
    clear hok
    obtain ⟨q0, q1⟩ := shr_bd (sl sw) n0
    have FO := Lib.hid (fun W => follow_any mean x sw n0 n1 x0 x1 s0 s1 W)
    obtain ⟨f0, f1⟩ := cap_wd (show 0 ≤ mean - mean / 2 ^ sl sw + x by omega)
    generalize cap (mean - mean / 2 ^ sl sw + x) = me at *
    have ME := Lib.hid (fun W => mean_any me sw f0 f1 s0 s1 W)
    obtain ⟨r0, r1⟩ := shr_bd (sl sw) f0
    generalize me / 2 ^ sl sw = m at *
    clear q0 q1
    by_cases h1 : m < lo
    · rw [if_pos h1]
      dsimp only
      go_enter Try.func36, Try.ntmps36
      go_wp2_with fail
      refine (CK.out _).mono ?_
      rintro e w' ⟨rfl, rfl⟩
      go_wp2_with fail
      refine (FO.out _).mono ?_
      rintro e w' ⟨rfl, rfl⟩
      go_wp2_with fail
      refine (ME.out _).mono ?_
      rintro e w' ⟨rfl, rfl⟩
      go_wp2
      (try simp only [Exit.inBlock, Exit.then])
      refine bodyPost_ret (v := .tuple #[.agg #[.int .u64 me, .int .u64 0], .bool false]) (by simp [results, Try.results36, go_sem]) rfl ⟨rfl, ?_⟩
      repeat' (first | exact Below.refl _ _ | refine below_drewN _ ?_ | refine Below.setCell ?_ (by simp) _ | refine Below.alloc ?_ (by simp; try omega) _)
    · by_cases h2 : hi ≤ m
      · rw [if_neg h1, if_pos h2]
        dsimp only
        go_enter Try.func36, Try.ntmps36
        go_wp2_with fail
        refine (CK.out _).mono ?_
        rintro e w' ⟨rfl, rfl⟩
        go_wp2_with fail
        refine (FO.out _).mono ?_
        rintro e w' ⟨rfl, rfl⟩
        go_wp2_with fail
        refine (ME.out _).mono ?_
        rintro e w' ⟨rfl, rfl⟩
        go_wp2
        (try simp only [Exit.inBlock, Exit.then])
        refine bodyPost_ret (v := .tuple #[.agg #[.int .u64 me, .int .u64 0], .bool true]) (by simp [results, Try.results36, go_sem]) rfl ⟨rfl, ?_⟩
        repeat' (first | exact Below.refl _ _ | refine below_drewN _ ?_ | refine Below.setCell ?_ (by simp) _ | refine Below.alloc ?_ (by simp; try omega) _)
      · rw [if_neg h1, if_neg h2]
        have AD := Lib.hid (fun W => sat_add count 1 c0 c1 (by decide) (by decide) W)
        obtain ⟨k0, k1⟩ := cap_wd (show 0 ≤ count + 1 by omega)
        generalize cap (count + 1) = cn at *
        have PT := Lib.hid (fun W => PT.out m (by omega) (by omega) W)
        obtain ⟨-, -, p0, p1⟩ := PB.out m (by omega) (by omega)
        generalize rp lo hi mo m = pr at *
        have MU := Lib.hid (fun W => sat_mul cn pr k0 k1 p0 (by omega) W)
        generalize cap (cn * pr) = pp at *
        clear PB
        by_cases h3 : 65536 ≤ pp
        · rw [if_pos h3]
          dsimp only
          go_enter Try.func36, Try.ntmps36
          go_wp2_with fail
          refine (CK.out _).mono ?_
          rintro e w' ⟨rfl, rfl⟩
          go_wp2_with fail
          refine (FO.out _).mono ?_
          rintro e w' ⟨rfl, rfl⟩
          go_wp2_with fail
          refine (ME.out _).mono ?_
          rintro e w' ⟨rfl, rfl⟩
          go_wp2_with fail
          refine (AD.out _).mono ?_
          rintro e w' ⟨rfl, rfl⟩
          go_wp2
          go_region_with (first | (go_at_call 79; refine (PT.out _).mono ?_; rintro e w2 ⟨rfl, q, rfl⟩) | (go_at_call 78; refine (MU.out _).mono ?_; rintro e w3 ⟨rfl, rfl⟩))
          all_goals
            go_wp2
            (try simp only [Exit.inBlock, Exit.then])
            refine bodyPost_ret (v := .tuple #[.agg #[.int .u64 me, .int .u64 0], .bool true]) (by simp [results, Try.results36, go_sem]) rfl ⟨rfl, ?_⟩
            repeat' (first | exact Below.refl _ _ | refine below_drewN _ ?_ | refine Below.drew ?_ | refine Below.setCell ?_ (by simp) _ | refine Below.alloc ?_ (by simp; try omega) _)
        · rw [if_neg h3]
          dsimp only
          go_enter Try.func36, Try.ntmps36
          go_wp2_with fail
          refine (CK.out _).mono ?_
          rintro e w' ⟨rfl, rfl⟩
          go_wp2_with fail
          refine (FO.out _).mono ?_
          rintro e w' ⟨rfl, rfl⟩
          go_wp2_with fail
          refine (ME.out _).mono ?_
          rintro e w' ⟨rfl, rfl⟩
          go_wp2_with fail
          refine (AD.out _).mono ?_
          rintro e w' ⟨rfl, rfl⟩
          go_wp2
          go_region_with (first | (go_at_call 79; refine (PT.out _).mono ?_; rintro e w2 ⟨rfl, q, rfl⟩) | (go_at_call 78; refine (MU.out _).mono ?_; rintro e w3 ⟨rfl, rfl⟩))
          all_goals
            go_wp2
            (try simp only [Exit.inBlock, Exit.then])
            refine bodyPost_ret (v := .tuple #[.agg #[.int .u64 me, .int .u64 cn], .bool false]) (by simp [results, Try.results36, go_sem]) rfl ⟨rfl, ?_⟩
            repeat' (first | exact Below.refl _ _ | refine below_drewN _ ?_ | refine Below.drew ?_ | refine Below.setCell ?_ (by simp) _ | refine Below.alloc ?_ (by simp; try omega) _)
  · rw [if_neg hok]
    rw [if_neg hok] at CK
    dsimp only
    clear hok
    go_enter Try.func36, Try.ntmps36
    go_wp2_with fail
    refine (CK.out _).mono ?_
    rintro e w' ⟨rfl, rfl⟩
    go_wp2
    (try simp only [Exit.inBlock, Exit.then])
    refine bodyPost_ret (v := .tuple #[.agg #[.int .u64 mean, .int .u64 count], .bool false]) (by simp [results, Try.results36, go_sem]) rfl ⟨rfl, ?_⟩
    repeat' (first | exact Below.refl _ _ | refine below_drewN _ ?_ | refine Below.drew ?_ | refine Below.setCell ?_ (by simp) _ | refine Below.alloc ?_ (by simp; try omega) _)
end Go.Proofs.Ytdokllignldbeaa
