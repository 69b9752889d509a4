/-
  The law of layer 32 on a table that nobody made, walked: true. No condition.
-/
import Derived.Test.YtfjhcmihjffknaaTr13
namespace Go.Proofs.Ytfjhcmihjffknaa
set_option linter.unusedVariables false
set_option linter.unusedSimpArgs false
open Go.ChangeShapes Go.WideShapes Go.ChangeAt Go.RowKit
attribute [local go_sem] alloc_drewN setCell_drewN

set_option maxRecDepth 100000 in
set_option maxHeartbeats 8000000 in
theorem walk_trieNobody (a : Int) (a0 : 0 ≤ a) (a1 : a ≤ 4294967295) (n : Int) (n0 : -9223372036854775808 ≤ n) (n1 : n ≤ 9223372036854775807) (x : Int) (x0 : 0 ≤ x) (x1 : x ≤ 4294967295) (w : World) : Calls Try.prog 8 #[.agg #[.int .u32 a, .int .i64 n], .int .u32 x] w fun e w' => e = .returned (.bool true) ∧ Below w.heap.size w w' := by
  obtain ⟨hb, hp, hsz⟩ := prefix_box w a n
  have HB := Lib.hid hb
  have HP := Lib.hid hp
  have SZ := Lib.hid hsz
  obtain ⟨p0, p1⟩ := box2 hp
  clear hb hp hsz
  go_enter Try.func8, Try.ntmps8
  go_wp2_with fail
  refine (tget_nil a n _).mono ?_
  rintro e w1 ⟨rfl, b1⟩
  generalize w.alloc (.cells #[.int .u32 a, .int .i64 n] 70) = W at *
  have B1 := Lib.hid b1
  have P1 := Lib.hid ((b1.block _ SZ.out).trans HP.out)
  clear b1 p0 p1
  obtain ⟨p0, p1⟩ := box2 P1.out
  go_wp2_with fail
  refine (tdrop_nil a n _).mono ?_
  rintro e w2 ⟨rfl, b2⟩
  have B2 := Lib.hid (B1.out.trans (b2.mono B1.out.size))
  have P2 := Lib.hid ((b2.block _ (Nat.lt_of_lt_of_le SZ.out B1.out.size)).trans P1.out)
  clear b2 p0 p1 B1
  obtain ⟨p0, p1⟩ := box2 P2.out
  go_wp2_with fail
  refine (tfind_nil x _).mono ?_
  rintro e w3 ⟨rfl, b3⟩
  have B3 := Lib.hid (B2.out.trans (b3.mono B2.out.size))
  have P3 := (b3.block _ (Nat.lt_of_lt_of_le SZ.out B2.out.size)).trans P2.out
  have Q3 := heap_alloc_new w3 (.cells #[.int .u32 0, .int .i64 0] 70)
  have B4 := Lib.hid (B3.out.alloc B3.out.size (.cells #[.int .u32 0, .int .i64 0] 70))
  have S3 := Lib.hid (Nat.lt_of_lt_of_le SZ.out B3.out.size)
  have P4 := Lib.hid ((Below.heap_alloc w3 (.cells #[.int .u32 0, .int .i64 0] 70) w.heap.size S3.out).trans P3)
  have Q4 := Lib.hid Q3
  have S4 := Lib.hid (show w3.heap.size < (w3.alloc (.cells #[.int .u32 0, .int .i64 0] 70)).heap.size by simp)
  clear b3 p0 p1 B2 P3 Q3
  obtain ⟨p0, p1⟩ := box2 P4.out
  go_wp2_with fail
  refine (tput_nil a n 1 _).mono ?_
  rintro e w5 ⟨rfl, b5⟩
  have B5 := Lib.hid (B4.out.trans (b5.mono B4.out.size))
  obtain ⟨q0, q1⟩ := box2 ((b5.block _ S4.out).trans Q4.out)
  clear b5 p0 p1 B4 P4
  go_wp2_with fail
  refine (tlen_nil _).mono ?_
  rintro e w6 ⟨rfl, hw6⟩
  rw [hw6]
  clear hw6
  go_wp2_with fail
  refine (tall_nil _).mono ?_
  rintro e w6 ⟨rfl, hw6⟩
  rw [hw6]
  clear hw6
  go_wp2_with fail
  refine (lives32 _).mono ?_
  rintro e w7 ⟨rfl, b7⟩
  have FIN := Lib.hid (HB.out.trans ((B5.out.trans (b7.mono B5.out.size)).mono HB.out.size))
  clear b7 B5
  go_wp2
  go_ret
  exact ⟨rfl, FIN.out⟩
end Go.Proofs.Ytfjhcmihjffknaa
