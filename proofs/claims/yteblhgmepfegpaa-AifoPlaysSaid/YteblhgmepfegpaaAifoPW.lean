/-
  The law of layer 13 on all that is offered and taken: true for any conf, ranks and takes. No condition.
-/
import Derived.Test.YteblhgmepfegpaaAifoP
namespace Go.Proofs.Yteblhgmepfegpaa
set_option linter.unusedVariables false
set_option linter.unusedSimpArgs false
open Go.ChangeShapes Go.WideShapes Go.ChangeAt Go.RowKit
attribute [local go_sem] alloc_drewN setCell_drewN

set_option maxRecDepth 100000 in
set_option maxHeartbeats 4000000 in
theorem plays13_no (room win num den : Int) (hnum : 0 ≤ num) (hden : 0 ≤ den) (a1 : Option Addr) (n1 c1 : Nat) (a2 : Option Addr) (n2 c2 : Nat) (w : World) (hchk : chk room win num den ≠ 0) :
    Calls Try.prog 5 #[.agg #[.int .i64 room, .int .i64 win, .int .u64 num, .int .u64 den], .slice a1 n1 c1, .slice a2 n2 c2] w fun e w' => e = .returned (.bool true) ∧ Below w.heap.size w w' := by
  obtain ⟨W0, hW0⟩ : ∃ W0, w.alloc (.cells #[.int .i64 room, .int .i64 win, .int .u64 num, .int .u64 den] 73) = W0 := ⟨_, rfl⟩
  have B0 : Below w.heap.size w W0 := by rw [← hW0]; exact (Below.refl _ w).alloc (Nat.le_refl _) _
  have e0 : W0.cell? ⟨w.heap.size, 0, none⟩ = some (.int .i64 room) := by rw [← hW0]; simp [go_sem]
  have e1 : W0.cell? ⟨w.heap.size, 1, none⟩ = some (.int .i64 win) := by rw [← hW0]; simp [go_sem]
  have e2 : W0.cell? ⟨w.heap.size, 2, none⟩ = some (.int .u64 num) := by rw [← hW0]; simp [go_sem]
  have e3 : W0.cell? ⟨w.heap.size, 3, none⟩ = some (.int .u64 den) := by rw [← hW0]; simp [go_sem]
  have hlt : w.heap.size < W0.heap.size := by rw [← hW0]; simp
  have RC := Lib.hid (rcheck room win num den)
  have HB0 := Lib.hid B0; have HLT := Lib.hid hlt
  have NW := Lib.hid (gnew_no room win num den W0 hnum hden hchk)
  generalize chk room win num den = f at *
  have hf1 : (f == 0) = false := by simpa using hchk
  have hf2 : decide (f = 0) = false := by simpa using hchk
  clear B0 hlt
  go_enter Try.func5, Try.ntmps5
  go_wp2_with fail
  refine NW.out.mono ?_
  rintro e w1 ⟨rfl, rfl⟩
  have HB1 := HB0
  go_wp2_with fail
  refine (RC.out _).mono ?_
  rintro e w2 ⟨rfl, rfl⟩
  go_wp2_with fail
  refine (lives13 _).mono ?_
  rintro e w2 ⟨rfl, b2⟩
  have B2 := Lib.hid (HB1.out.trans (b2.mono HB1.out.size))
  clear b2
  go_wp2
  go_ret
  exact ⟨rfl, B2.out⟩

set_option maxRecDepth 100000 in
set_option maxHeartbeats 4000000 in
theorem plays13_long (room win num den : Int) (hnum : 0 ≤ num) (hden : 0 ≤ den) (a1 : Option Addr) (n1 c1 : Nat) (a2 : Option Addr) (n2 c2 : Nat) (w : World) (hchk : chk room win num den = 0) (hl1 : n1 ≤ maxLen) (hl2 : n2 ≤ maxLen) (hn : 200 < n1 ∨ 200 < n2) :
    Calls Try.prog 5 #[.agg #[.int .i64 room, .int .i64 win, .int .u64 num, .int .u64 den], .slice a1 n1 c1, .slice a2 n2 c2] w fun e w' => e = .returned (.bool true) ∧ Below w.heap.size w w' := by
  obtain ⟨W0, hW0⟩ : ∃ W0, w.alloc (.cells #[.int .i64 room, .int .i64 win, .int .u64 num, .int .u64 den] 73) = W0 := ⟨_, rfl⟩
  have B0 : Below w.heap.size w W0 := by rw [← hW0]; exact (Below.refl _ w).alloc (Nat.le_refl _) _
  have e0 : W0.cell? ⟨w.heap.size, 0, none⟩ = some (.int .i64 room) := by rw [← hW0]; simp [go_sem]
  have e1 : W0.cell? ⟨w.heap.size, 1, none⟩ = some (.int .i64 win) := by rw [← hW0]; simp [go_sem]
  have e2 : W0.cell? ⟨w.heap.size, 2, none⟩ = some (.int .u64 num) := by rw [← hW0]; simp [go_sem]
  have e3 : W0.cell? ⟨w.heap.size, 3, none⟩ = some (.int .u64 den) := by rw [← hW0]; simp [go_sem]
  have hlt : w.heap.size < W0.heap.size := by rw [← hW0]; simp
  have RC := Lib.hid (rcheck room win num den)
  have HB0 := Lib.hid B0; have HLT := Lib.hid hlt
  have NW := Lib.hid (gnew_ok room win num den W0 hnum hchk)
  rw [hchk] at RC
  unfold maxLen at hl1 hl2
  clear B0 hlt
  by_cases h1 : (200 : Int) < n1
  · go_enter Try.func5, Try.ntmps5
    go_wp2_with fail
    refine NW.out.mono ?_
    rintro e w1 ⟨G, R, C, rfl, g1, b1⟩
    have f0 := (b1.cell (p := ⟨w.heap.size, 0, none⟩) HLT.out).trans e0
    have f1 := (b1.cell (p := ⟨w.heap.size, 1, none⟩) HLT.out).trans e1
    have f2 := (b1.cell (p := ⟨w.heap.size, 2, none⟩) HLT.out).trans e2
    have f3 := (b1.cell (p := ⟨w.heap.size, 3, none⟩) HLT.out).trans e3
    have HB1 := Lib.hid (HB0.out.trans (b1.mono HB0.out.size))
    clear e0 e1 e2 e3 g1 b1 NW hW0
    go_wp2_with fail
    refine (RC.out _).mono ?_
    rintro e w2 ⟨rfl, rfl⟩
    go_wp2_with fail
    refine (lives13 _).mono ?_
    rintro e w2 ⟨rfl, b2⟩
    have B2 := Lib.hid (HB1.out.trans (b2.mono HB1.out.size))
    clear b2
    go_wp2
    go_ret
    exact ⟨rfl, B2.out⟩
  · have h2 : (200 : Int) < n2 := by omega
    go_enter Try.func5, Try.ntmps5
    go_wp2_with fail
    refine NW.out.mono ?_
    rintro e w1 ⟨G, R, C, rfl, g1, b1⟩
    have f0 := (b1.cell (p := ⟨w.heap.size, 0, none⟩) HLT.out).trans e0
    have f1 := (b1.cell (p := ⟨w.heap.size, 1, none⟩) HLT.out).trans e1
    have f2 := (b1.cell (p := ⟨w.heap.size, 2, none⟩) HLT.out).trans e2
    have f3 := (b1.cell (p := ⟨w.heap.size, 3, none⟩) HLT.out).trans e3
    have HB1 := Lib.hid (HB0.out.trans (b1.mono HB0.out.size))
    clear e0 e1 e2 e3 g1 b1 NW hW0
    go_wp2_with fail
    refine (RC.out _).mono ?_
    rintro e w2 ⟨rfl, rfl⟩
    go_wp2_with fail
    refine (lives13 _).mono ?_
    rintro e w2 ⟨rfl, b2⟩
    have B2 := Lib.hid (HB1.out.trans (b2.mono HB1.out.size))
    clear b2
    go_wp2
    go_ret
    exact ⟨rfl, B2.out⟩

theorem walk_aifoPlays (room : Int) (hr0 : -9223372036854775808 ≤ room) (hr1 : room ≤ 9223372036854775807) (win : Int) (hw0 : -9223372036854775808 ≤ win) (hw1 : win ≤ 9223372036854775807) (num : Int) (hn0 : 0 ≤ num) (hn1 : num ≤ 18446744073709551615) (den : Int) (hd0 : 0 ≤ den) (hd1 : den ≤ 18446744073709551615) (a1 : Option Addr) (n1 c1 : Nat) (zs : List Int) {w : World} (hr : Row1 .u64 w a1 n1 zs) (hc1 : n1 ≤ c1) (a2 : Option Addr) (n2 c2 : Nat) (ts : List Int) (ht : Row1 .u8 w a2 n2 ts) (hc2 : n2 ≤ c2) :
    Calls Try.prog 5 #[.agg #[.int .i64 room, .int .i64 win, .int .u64 num, .int .u64 den], .slice a1 n1 c1, .slice a2 n2 c2] w fun e w' => e = .returned (.bool true) ∧ Below w.heap.size w w' := by
  by_cases hchk : chk room win num den = 0
  · by_cases h1 : n1 ≤ 200 ∧ n2 ≤ 200
    · exact plays13_at room win num den ⟨hr0, hr1⟩ ⟨hw0, hw1⟩ hn0 hd0 a1 n1 c1 zs a2 n2 c2 ts hr ht hchk h1.1 h1.2
    · exact plays13_long room win num den hn0 hd0 a1 n1 c1 a2 n2 c2 w hchk hr.2.1 ht.2.1 (by omega)
  · exact plays13_no room win num den hn0 hd0 a1 n1 c1 a2 n2 c2 w hchk
end Go.Proofs.Yteblhgmepfegpaa
