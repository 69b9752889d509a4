/-
  The law of plays of layer 6, walked: true for any room and any acts. No condition.
-/
import Derived.Test.YtdeehklegeeanaaWalk6
namespace Go.Proofs.Ytdeehklegeeanaa
set_option linter.unusedVariables false
set_option linter.unusedSimpArgs false
open Go.ChangeShapes Go.WideShapes Go.ChangeAt Go.RowKit
attribute [local go_sem] alloc_drewN setCell_drewN

set_option maxRecDepth 100000 in
set_option maxHeartbeats 1000000 in
theorem walk_ringPlays (room : Int) (r0 : -9223372036854775808 ≤ room) (r1 : room ≤ 9223372036854775807) (a : Option Addr) (n c : Nat) (zs : List Act6) {w : World} (hr : RowA6 w a n zs) (hcap : n ≤ c) :
    Calls Try.prog 3 #[.int .i64 room, .slice a n c] w fun e w' => e = .returned (.bool true) ∧ Below w.heap.size w w' := by
  obtain ⟨hz, hm, hw, hc⟩ := hr
  unfold maxLen at hm
  by_cases hroom : 1 ≤ room ∧ room ≤ 65536
  · obtain ⟨h1, h2⟩ := hroom
    by_cases hn : n ≤ 200
    · rcases Nat.eq_zero_or_pos n with h0 | h0
      · subst h0
        clear hc hw hz
        have LV := Lib.hid (fun w => lives6 w)
        go_enter Try.func3, Try.ntmps3
        go_wp2_with fail
        refine (new_okI room h1 h2 _).mono ?_
        rintro e w1 ⟨rfl, -, b1⟩
        go_wp2_with fail
        refine wp_loop_rounds 1 ?_
        rw [rounds_succ]
        go_wp2_with fail
        refine (LV.out _).mono ?_
        rintro e w9 ⟨rfl, b9⟩
        go_wp2
        go_ret
        exact ⟨rfl, b1.trans (b9.mono b1.size)⟩
      · obtain ⟨b, off, rfl, hb, hcell⟩ := hc h0
        subst hz
        exact plays6_at room h1 h2 b off c zs hn hw w hb hcell
    · have hn' : 200 < n := by omega
      clear hc hw hz hn
      have LV := Lib.hid (fun w => lives6 w)
      go_enter Try.func3, Try.ntmps3
      go_wp2_with fail
      refine (new_okI room h1 h2 _).mono ?_
      rintro e w1 ⟨rfl, -, b1⟩
      go_wp2_with fail
      refine (LV.out _).mono ?_
      rintro e w9 ⟨rfl, b9⟩
      go_wp2
      go_ret
      exact ⟨rfl, b1.trans (b9.mono b1.size)⟩
  · have LV := Lib.hid (fun w => lives6 w)
    clear hc hw hz
    by_cases h1 : room < 1
    · have h1' : ¬ 1 ≤ room := by omega
      have hno : room < 1 ∨ 65536 < room := Or.inl h1
      clear hroom
      go_enter Try.func3, Try.ntmps3
      go_wp2_with fail
      refine (new_noI room hno _).mono ?_
      rintro e w1 ⟨rfl, rfl⟩
      go_wp2_with fail
      refine (LV.out _).mono ?_
      rintro e w9 ⟨rfl, b9⟩
      go_wp2
      go_ret
      exact ⟨rfl, b9⟩
    · have h1' : 1 ≤ room := by omega
      have h2' : ¬ room ≤ 65536 := by omega
      have hno : room < 1 ∨ 65536 < room := by omega
      clear hroom
      go_enter Try.func3, Try.ntmps3
      go_wp2_with fail
      refine (new_noI room hno _).mono ?_
      rintro e w1 ⟨rfl, rfl⟩
      go_wp2_with fail
      refine (LV.out _).mono ?_
      rintro e w9 ⟨rfl, b9⟩
      go_wp2
      go_ret
      exact ⟨rfl, b9⟩
end Go.Proofs.Ytdeehklegeeanaa
