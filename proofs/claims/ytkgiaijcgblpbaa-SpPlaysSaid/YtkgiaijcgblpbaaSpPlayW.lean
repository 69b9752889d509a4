/-
  The law of plays of layer 12, whole: wrong rooms and numbers of queues, long and empty lists beside plays12_at. No condition.
-/
import Derived.Test.YtkgiaijcgblpbaaSpPlay
namespace Go.Proofs.Ytkgiaijcgblpbaa
set_option linter.unusedVariables false
set_option linter.unusedSimpArgs false
open Go.ChangeShapes Go.WideShapes Go.ChangeAt Go.RowKit
attribute [local go_sem] alloc_drewN setCell_drewN

theorem walk_spPlays (room : Int) (r0 : -9223372036854775808 ≤ room) (r1 : room ≤ 9223372036854775807) (k : Int) (k0 : -9223372036854775808 ≤ k) (k1 : k ≤ 9223372036854775807) (a : Option Addr) (n c : Nat) (zs : List Act10) {w : World} (hr : RowA10 w a n zs) (hcap : n ≤ c) :
    Calls Try.prog 6 #[.int .i64 room, .int .i64 k, .slice a n c] w fun e w' => e = .returned (.bool true) ∧ Below w.heap.size w w' := by
  obtain ⟨hz, hm, hw, hc⟩ := hr
  unfold maxLen at hm
  have LV := Lib.hid (fun w => lives12 w)
  by_cases hroom : 1 ≤ room ∧ room ≤ 4096
  · obtain ⟨h1, h2⟩ := hroom
    by_cases hk : 1 ≤ k ∧ k ≤ 32
    · obtain ⟨h3, h4⟩ := hk
      obtain ⟨m, rfl⟩ := Int.eq_ofNat_of_zero_le (show 0 ≤ k by omega)
      have m0 : 1 ≤ m := by omega
      have m1 : m ≤ 32 := by omega
      by_cases hn : n ≤ 150
      · rcases Nat.eq_zero_or_pos n with h0 | h0
        · subst h0
          have NW := Lib.hid (snewI room m h1 h2 m0 m1 w)
          have NR := Lib.hid (fun w => new12 room m m0 m1 w)
          have MY := Lib.hid (fun w => may12_yes room m h1 h2 h3 h4 w)
          clear hc hw hz h1 h2 h3 h4
          go_enter Try.func6, Try.ntmps6
          go_wp2_with fail
          refine NW.out.mono ?_
          rintro e w1 ⟨B, rfl, b1, -⟩
          have B1 := Lib.hid b1
          clear b1
          go_wp2_with fail
          refine (MY.out _).mono ?_
          rintro e w' ⟨rfl, rfl⟩
          go_wp2_with fail
          refine (NR.out _).mono ?_
          rintro e w2 ⟨M, rfl, b2, -⟩
          have B2 := Lib.hid (B1.out.trans (b2.mono B1.out.size))
          clear b2
          go_wp2
          refine wp_loop_rounds 1 ?_
          rw [rounds_succ]
          go_wp2_with fail
          refine (LV.out _).mono ?_
          rintro e w9 ⟨rfl, b9⟩
          go_wp2
          go_ret
          exact ⟨rfl, B2.out.trans (b9.mono B2.out.size)⟩
        · obtain ⟨b, off, rfl, hb, hcell⟩ := hc h0
          subst hz
          exact plays12_at room h1 h2 m m0 m1 b off c zs hn hw w hb hcell
      · have hn' : 150 < n := by omega
        have NW := Lib.hid (snewI room m h1 h2 m0 m1 w)
        have MY := Lib.hid (fun w => may12_yes room m h1 h2 h3 h4 w)
        clear hc hw hz hn h1 h2 h3 h4
        go_enter Try.func6, Try.ntmps6
        go_wp2_with fail
        refine NW.out.mono ?_
        rintro e w1 ⟨B, rfl, b1, -⟩
        have B1 := Lib.hid b1
        clear b1
        go_wp2_with fail
        refine (MY.out _).mono ?_
        rintro e w' ⟨rfl, rfl⟩
        go_wp2_with fail
        refine (LV.out _).mono ?_
        rintro e w9 ⟨rfl, b9⟩
        go_wp2
        go_ret
        exact ⟨rfl, B1.out.trans (b9.mono B1.out.size)⟩
    · have NO := Lib.hid ((snew_noI room k w).2 h1 h2 (by omega))
      have MN := Lib.hid (fun w => may12_queues room k h1 h2 (by omega) w)
      clear hc hw hz hk h1 h2
      go_enter Try.func6, Try.ntmps6
      go_wp2_with fail
      refine NO.out.mono ?_
      rintro e w1 ⟨rfl, rfl⟩
      go_wp2_with fail
      refine (MN.out _).mono ?_
      rintro e w' ⟨rfl, rfl⟩
      go_wp2_with fail
      refine (LV.out _).mono ?_
      rintro e w9 ⟨rfl, b9⟩
      go_wp2
      go_ret
      exact ⟨rfl, b9⟩
  · have NO := Lib.hid ((snew_noI room k w).1 (by omega))
    have MN := Lib.hid (fun w => may12_room room k (by omega) w)
    clear hc hw hz hroom
    go_enter Try.func6, Try.ntmps6
    go_wp2_with fail
    refine NO.out.mono ?_
    rintro e w1 ⟨rfl, rfl⟩
    go_wp2_with fail
    refine (MN.out _).mono ?_
    rintro e w' ⟨rfl, rfl⟩
    go_wp2_with fail
    refine (LV.out _).mono ?_
    rintro e w9 ⟨rfl, b9⟩
    go_wp2
    go_ret
    exact ⟨rfl, b9⟩
end Go.Proofs.Ytkgiaijcgblpbaa
