/-
  The law of layer 13 on ranks that rise: walked, for any conf, ranks and two ranks. No condition.
-/
import Derived.Test.YtnnbkooikimedaaAifoRs
namespace Go.Proofs.Ytnnbkooikimedaa
set_option linter.unusedVariables false
set_option linter.unusedSimpArgs false
open Go.ChangeShapes Go.WideShapes Go.ChangeAt Go.RowKit
attribute [local go_sem] alloc_drewN setCell_drewN

set_option maxRecDepth 100000 in
set_option maxHeartbeats 4000000 in
theorem rises13_no (room win num den x y : Int) (hnum : 0 ≤ num) (hden : 0 ≤ den) (a1 : Option Addr) (n1 c1 : Nat) (zs : List Int) {w : World} (hr : Row1 .u64 w a1 n1 zs) (hchk : chk room win num den ≠ 0) :
    Calls Try.prog 3 #[.agg #[.int .i64 room, .int .i64 win, .int .u64 num, .int .u64 den], .slice a1 n1 c1, .agg #[.int .u64 x, .int .u64 y]] w fun e w' => e = .returned (.bool true) ∧ Below w.heap.size w w' := by
  obtain ⟨W9, hW9⟩ : ∃ W9, w.alloc (.cells #[.int .i64 room, .int .i64 win, .int .u64 num, .int .u64 den] 24) = W9 := ⟨_, rfl⟩
  obtain ⟨W0, hW0⟩ : ∃ W0, W9.alloc (.cells #[.int .u64 x, .int .u64 y] 26) = W0 := ⟨_, rfl⟩
  have hs9 : W9.heap.size = w.heap.size + 1 := by rw [← hW9]; simp
  have B0 : Below w.heap.size w W0 := by rw [← hW0, ← hW9]; exact ((Below.refl _ w).alloc (Nat.le_refl _) _).alloc (by simp) _
  have e0 : W0.cell? ⟨w.heap.size, 0, none⟩ = some (.int .i64 room) := by rw [← hW0, ← hW9]; simp [go_sem]
  have e1 : W0.cell? ⟨w.heap.size, 1, none⟩ = some (.int .i64 win) := by rw [← hW0, ← hW9]; simp [go_sem]
  have e2 : W0.cell? ⟨w.heap.size, 2, none⟩ = some (.int .u64 num) := by rw [← hW0, ← hW9]; simp [go_sem]
  have e3 : W0.cell? ⟨w.heap.size, 3, none⟩ = some (.int .u64 den) := by rw [← hW0, ← hW9]; simp [go_sem]
  have e4 : W0.cell? ⟨w.heap.size + 1, 0, none⟩ = some (.int .u64 x) := by rw [← hW0, ← hs9]; simp [go_sem]
  have e5 : W0.cell? ⟨w.heap.size + 1, 1, none⟩ = some (.int .u64 y) := by rw [← hW0, ← hs9]; simp [go_sem]
  have hlt : w.heap.size + 1 < W0.heap.size := by rw [← hW0]; simp; omega
  have HB0 := Lib.hid B0; have HLT := Lib.hid hlt
  have HR := Lib.hid hr
  have HS9 := Lib.hid hs9
  clear B0 hr hlt
  go_enter Try.func3, Try.ntmps3
  go_wp2_with fail
  clear hW0 hW9
  go_quiet (fail)
  have F0 : Hid (∃ W1 : World, W0.drewN nq = W1 ∧ W1.heap = W0.heap) := Lib.hid ⟨_, rfl, rfl⟩
  obtain ⟨W1, hW1, hh⟩ := F0.out
  have f0 : W1.cell? ⟨w.heap.size, 0, none⟩ = some (.int .i64 room) := by rw [← hW1]; exact e0
  have f1 : W1.cell? ⟨w.heap.size, 1, none⟩ = some (.int .i64 win) := by rw [← hW1]; exact e1
  have f2 : W1.cell? ⟨w.heap.size, 2, none⟩ = some (.int .u64 num) := by rw [← hW1]; exact e2
  have f3 : W1.cell? ⟨w.heap.size, 3, none⟩ = some (.int .u64 den) := by rw [← hW1]; exact e3
  have HB1 := Lib.hid (show Below w.heap.size w W1 by rw [← hW1]; exact below_drewN nq HB0.out)
  have HL1 := Lib.hid (show w.heap.size + 1 < W1.heap.size by rw [hh]; exact HLT.out)
  rw [hW1]
  clear e0 e1 e2 e3 e4 e5 hh hW1 F0 hs9 HS9 HB0 HLT
  have NW := Lib.hid (gnew_no room win num den W1 hnum hden hchk)
  generalize chk room win num den = f at *
  have hf1 : (f == 0) = false := by simpa using hchk
  have hf2 : decide (f = 0) = false := by simpa using hchk
  go_wp2_with fail
  refine NW.out.mono ?_
  rintro e w1 ⟨rfl, rfl⟩
  go_wp2_with fail
  refine (lives13 _).mono ?_
  rintro e w2 ⟨rfl, b2⟩
  have B2 := Lib.hid (HB1.out.trans (b2.mono HB1.out.size))
  clear b2
  go_wp2
  go_ret
  exact ⟨rfl, B2.out⟩
set_option maxRecDepth 100000 in
set_option maxHeartbeats 4000000 in
theorem rises13_long (room win num den x y : Int) (hnum : 0 ≤ num) (hden : 0 ≤ den) (a1 : Option Addr) (n1 c1 : Nat) (zs : List Int) {w : World} (hr : Row1 .u64 w a1 n1 zs) (hchk : chk room win num den = 0) (hn : 200 < n1) :
    Calls Try.prog 3 #[.agg #[.int .i64 room, .int .i64 win, .int .u64 num, .int .u64 den], .slice a1 n1 c1, .agg #[.int .u64 x, .int .u64 y]] w fun e w' => e = .returned (.bool true) ∧ Below w.heap.size w w' := by
  have hm1 : (200 : Int) < n1 := by omega
  obtain ⟨W9, hW9⟩ : ∃ W9, w.alloc (.cells #[.int .i64 room, .int .i64 win, .int .u64 num, .int .u64 den] 24) = W9 := ⟨_, rfl⟩
  obtain ⟨W0, hW0⟩ : ∃ W0, W9.alloc (.cells #[.int .u64 x, .int .u64 y] 26) = W0 := ⟨_, rfl⟩
  have hs9 : W9.heap.size = w.heap.size + 1 := by rw [← hW9]; simp
  have B0 : Below w.heap.size w W0 := by rw [← hW0, ← hW9]; exact ((Below.refl _ w).alloc (Nat.le_refl _) _).alloc (by simp) _
  have e0 : W0.cell? ⟨w.heap.size, 0, none⟩ = some (.int .i64 room) := by rw [← hW0, ← hW9]; simp [go_sem]
  have e1 : W0.cell? ⟨w.heap.size, 1, none⟩ = some (.int .i64 win) := by rw [← hW0, ← hW9]; simp [go_sem]
  have e2 : W0.cell? ⟨w.heap.size, 2, none⟩ = some (.int .u64 num) := by rw [← hW0, ← hW9]; simp [go_sem]
  have e3 : W0.cell? ⟨w.heap.size, 3, none⟩ = some (.int .u64 den) := by rw [← hW0, ← hW9]; simp [go_sem]
  have e4 : W0.cell? ⟨w.heap.size + 1, 0, none⟩ = some (.int .u64 x) := by rw [← hW0, ← hs9]; simp [go_sem]
  have e5 : W0.cell? ⟨w.heap.size + 1, 1, none⟩ = some (.int .u64 y) := by rw [← hW0, ← hs9]; simp [go_sem]
  have hlt : w.heap.size + 1 < W0.heap.size := by rw [← hW0]; simp; omega
  have HB0 := Lib.hid B0; have HLT := Lib.hid hlt
  have HR := Lib.hid hr
  have HS9 := Lib.hid hs9
  clear B0 hr hlt
  go_enter Try.func3, Try.ntmps3
  go_wp2_with fail
  clear hW0 hW9
  go_quiet (fail)
  have F0 : Hid (∃ W1 : World, W0.drewN nq = W1 ∧ W1.heap = W0.heap) := Lib.hid ⟨_, rfl, rfl⟩
  obtain ⟨W1, hW1, hh⟩ := F0.out
  have f0 : W1.cell? ⟨w.heap.size, 0, none⟩ = some (.int .i64 room) := by rw [← hW1]; exact e0
  have f1 : W1.cell? ⟨w.heap.size, 1, none⟩ = some (.int .i64 win) := by rw [← hW1]; exact e1
  have f2 : W1.cell? ⟨w.heap.size, 2, none⟩ = some (.int .u64 num) := by rw [← hW1]; exact e2
  have f3 : W1.cell? ⟨w.heap.size, 3, none⟩ = some (.int .u64 den) := by rw [← hW1]; exact e3
  have HB1 := Lib.hid (show Below w.heap.size w W1 by rw [← hW1]; exact below_drewN nq HB0.out)
  have HL1 := Lib.hid (show w.heap.size + 1 < W1.heap.size by rw [hh]; exact HLT.out)
  rw [hW1]
  clear e0 e1 e2 e3 e4 e5 hh hW1 F0 hs9 HS9 HB0 HLT
  have NW := Lib.hid (gnew_ok room win num den W1 hnum hchk)
  go_wp2_with fail
  refine NW.out.mono ?_
  rintro e w1 ⟨G, R, C, rfl, g1, b1⟩
  have HB2 := Lib.hid (HB1.out.trans (b1.mono HB1.out.size))
  clear g1 b1
  go_wp2_with fail
  refine (lives13 _).mono ?_
  rintro e w2 ⟨rfl, b2⟩
  have B2 := Lib.hid (HB2.out.trans (b2.mono HB2.out.size))
  clear b2
  go_wp2
  go_ret
  exact ⟨rfl, B2.out⟩
theorem walk_aifoRises (room : Int) (_ : -9223372036854775808 ≤ room) (_ : room ≤ 9223372036854775807) (win : Int) (_ : -9223372036854775808 ≤ win) (_ : win ≤ 9223372036854775807) (num : Int) (hnum : 0 ≤ num) (_ : num ≤ 18446744073709551615) (den : Int) (hden : 0 ≤ den) (_ : den ≤ 18446744073709551615) (a1 : Option Addr) (n1 c1 : Nat) (zs : List Int) {w : World} (hr : Row1 .u64 w a1 n1 zs) (_ : n1 ≤ c1) (x : Int) (hx0 : 0 ≤ x) (hx1 : x ≤ 18446744073709551615) (y : Int) (hy0 : 0 ≤ y) (hy1 : y ≤ 18446744073709551615) :
    Calls Try.prog 3 #[.agg #[.int .i64 room, .int .i64 win, .int .u64 num, .int .u64 den], .slice a1 n1 c1, .agg #[.int .u64 x, .int .u64 y]] w fun e w' => e = .returned (.bool true) ∧ Below w.heap.size w w' := by
  by_cases hchk : chk room win num den = 0
  · by_cases hn : n1 ≤ 200
    · exact rises13_at room win num den x y hx0 hx1 hy0 hy1 hnum hden a1 n1 c1 zs hr hchk hn
    · exact rises13_long room win num den x y hnum hden a1 n1 c1 zs hr hchk (by omega)
  · exact rises13_no room win num den x y hnum hden a1 n1 c1 zs hr hchk
end Go.Proofs.Ytnnbkooikimedaa
