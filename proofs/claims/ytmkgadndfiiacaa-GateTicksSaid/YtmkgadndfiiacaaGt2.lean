/-
  Layer 22: how long a round is, and which slot a time lies in. No condition but that the plan may be.
-/
import Derived.Test.YtmkgadndfiiacaaGt1
namespace Go.Proofs.Ytmkgadndfiiacaa
set_option linter.unusedVariables false
set_option linter.unusedSimpArgs false
open Go.ChangeShapes Go.WideShapes Go.ChangeAt Go.RowKit
attribute [local go_sem] alloc_drewN setCell_drewN

set_option maxHeartbeats 1000000 in
theorem rround22 {w : World} {a : Option Addr} {n : Nat} {fs : List Slot22} (hr : RowSl w a n fs) (c : Nat) (hok : PlanOk fs n) :
    Calls Try.prog 33 #[.slice a n c] w fun e w' => e = .returned (.int .u64 (spans fs n)) ∧ w' = w := by
  have HR := Lib.hid hr
  have SN := Lib.hid (spans_nn hok.2)
  have hn : n ≤ 64 := hok.1.2
  clear hr hok
  go_enter Try.func33, Try.ntmps33
  go_wp2
  go_loopw [3, 4] (fun v z wr => ∃ i : Nat, i ≤ n ∧ v = .int .u64 (spans fs i) ∧ z = .int .i64 i ∧ wr = w) (fun _ z _ => n - (intOf z).toNat)
  case atStart => exact ⟨0, Nat.zero_le _, rfl, rfl, rfl⟩
  case round =>
    obtain ⟨i, hi, rfl, rfl, rfl⟩ := hrel
    by_cases hlt : i < n
    · have z0 : (0 : Int) ≤ i := by omega
      have z1 : (i : Int) < n := by omega
      obtain ⟨b, off, rfl, hb, c0, c1⟩ := HR.out.atS (Below.refl _ _) i hlt
      obtain ⟨-, s0, s1⟩ := HR.out.okS i hlt
      obtain ⟨t0, t1⟩ := SN.out i hi
      obtain ⟨t2, t3⟩ := SN.out (i + 1) hlt
      have e : spans fs (i + 1) = spans fs i + (slotN fs i).s := rfl
      obtain ⟨S, hS⟩ : ∃ S, spans fs i = S := ⟨_, rfl⟩
      obtain ⟨y, hy⟩ : ∃ y, (slotN fs i).s = y := ⟨_, rfl⟩
      rw [hS] at t0 t1 e ⊢
      rw [hy] at c1 s0 s1 e
      rw [e] at t2 t3
      have HE := Lib.hid e
      clear c0 hS hy e
      have u0 : 0 ≤ S := by omega
      have u1 : S + y ≤ 18446744073709551615 := by omega
      go_wp2
      go_roundw
      case rel => exact ⟨i + 1, by omega, by rw [HE.out], by go_num, by first | rfl | trivial⟩
      case measure => simp [intOf] <;> omega
    · obtain rfl : i = n := by omega
      go_wp2
      go_ret
      exact ⟨rfl, rfl⟩
set_option maxHeartbeats 1000000 in
theorem ground22 {w : World} {a : Option Addr} {n : Nat} {fs : List Slot22} (hr : RowSl w a n fs) (c : Nat) (hok : PlanOk fs n) :
    Calls Try.prog 30 #[.slice a n c] w fun e w' => e = .returned (.int .u64 (spans fs n)) ∧ Below w.heap.size w w' := by
  have HR := Lib.hid hr
  have CK := Lib.hid (gcheck22 hr c)
  rw [if_pos hok] at CK
  have SN := Lib.hid (spans_nn hok.2)
  have hn : n ≤ 64 := hok.1.2
  clear hr hok
  go_enter Try.func30, Try.ntmps30
  go_wp2_with fail
  refine CK.out.mono ?_
  rintro e w1 ⟨rfl, hb1⟩
  have HB1 := Lib.hid hb1
  clear hb1 CK
  go_wp2
  go_loopw [3, 11] (fun v z wr => ∃ i : Nat, i ≤ n ∧ v = .int .u64 (spans fs i) ∧ z = .int .i64 i ∧ Below w.heap.size w wr) (fun _ z _ => n - (intOf z).toNat)
  case atStart => exact ⟨0, Nat.zero_le _, rfl, rfl, HB1.out⟩
  case round =>
    obtain ⟨i, hi, rfl, rfl, hbw⟩ := hrel
    have HB := Lib.hid hbw
    have hsz := hbw.size
    by_cases hlt : i < n
    · have z0 : (0 : Int) ≤ i := by omega
      have z1 : (i : Int) < n := by omega
      obtain ⟨b, off, rfl, hb, c0, c1⟩ := HR.out.atS hbw i hlt
      obtain ⟨⟨o0, o1⟩, s0, s1⟩ := HR.out.okS i hlt
      obtain ⟨t0, t1⟩ := SN.out i hi
      obtain ⟨t2, t3⟩ := SN.out (i + 1) hlt
      have e : spans fs (i + 1) = spans fs i + (slotN fs i).s := rfl
      obtain ⟨S, hS⟩ : ∃ S, spans fs i = S := ⟨_, rfl⟩
      obtain ⟨y, hy⟩ : ∃ y, (slotN fs i).s = y := ⟨_, rfl⟩
      obtain ⟨x, hx⟩ : ∃ x, (slotN fs i).o = x := ⟨_, rfl⟩
      rw [hS] at t0 t1 e ⊢
      rw [hy] at c1 s0 s1 e
      rw [hx] at c0 o0 o1
      rw [e] at t2 t3
      have HE := Lib.hid e
      have BB := Lib.hid (HB.out.alloc hsz (.cells #[.int .u8 x, .int .u64 y] 67))
      clear hS hy hx e hbw
      have u0 : 0 ≤ S := by omega
      have u1 : S + y ≤ 18446744073709551615 := by omega
      go_wp2
      go_roundw
      case rel => exact ⟨i + 1, by omega, by rw [HE.out], by go_num, BB.out⟩
      case measure => simp [intOf] <;> omega
    · obtain rfl : i = n := by omega
      clear hbw
      go_wp2
      go_ret
      exact ⟨rfl, HB.out⟩
theorem ground22_no {w : World} {a : Option Addr} {n : Nat} {fs : List Slot22} (hr : RowSl w a n fs) (c : Nat) (hok : ¬ PlanOk fs n) :
    Calls Try.prog 30 #[.slice a n c] w fun e w' => e = .returned (.int .u64 0) ∧ Below w.heap.size w w' := by
  have CK := Lib.hid (gcheck22 hr c)
  rw [if_neg hok] at CK
  clear hr hok
  go_enter Try.func30, Try.ntmps30
  go_wp2_with fail
  refine CK.out.mono ?_
  rintro e w1 ⟨rfl, hb1⟩
  have HB1 := Lib.hid hb1
  clear hb1 CK
  go_wp2
  go_ret
  exact ⟨rfl, HB1.out⟩
end Go.Proofs.Ytmkgadndfiiacaa
