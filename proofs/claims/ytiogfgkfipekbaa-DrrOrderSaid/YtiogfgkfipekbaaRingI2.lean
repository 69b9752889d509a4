/-
  What package ring does with a row of elements of type int: one element, the last ones, all of them. What lay below the heap's end stands. No condition but that the ring is one that New made.
-/
import Derived.Test.YtiogfgkfipekbaaRingI1
import Derived.Deep.RegionHeld3
import Derived.Laws.CopyOwn
namespace Go.Proofs.Ytiogfgkfipekbaa
set_option linter.unusedVariables false
set_option linter.unusedSimpArgs false
open Go.ChangeShapes Go.WideShapes Go.ChangeAt Go.RowKit
attribute [local go_sem] alloc_drewN setCell_drewN

theorem at_inI {w : World} {base B : Nat} {room : Int} {v : Value} {ps : List Int} {f k : Nat} (h : RingAtI w base B room v ps f k) (i : Int) (i0 : 0 ≤ i) (i1 : i < k) :
    Calls Try.prog 122 #[.pointer (some ⟨B, 0, none⟩), .int .i64 i] w fun e w' => e = .returned (.tuple #[Value.int .i64 ((cont 0 ps f k).getD i.toNat 0), .bool true]) ∧ ∃ n, w' = w.drewN n := by
  obtain ⟨j, rfl⟩ := Int.eq_ofNat_of_zero_le i0
  have hle := h.le
  have hn : 0 < ps.length := by omega
  have hlr := h.lr; have hr1 := h.r1
  rw [Int.toNat_natCast, cont_getD _ _ _ _ _ (by omega)]
  obtain ⟨c0, c1, c2, c3⟩ := h.cell
  have PL := Lib.hid (fun n => placeI (h.drewN n) hn (j : Int) (by omega) (by omega))
  have LN := Lib.hid (lenI h)
  rw [Int.toNat_natCast] at PL
  obtain ⟨g, c, rfl, hg, hc⟩ := h.form hn
  have hq : (f + j) % ps.length < ps.length := Nat.mod_lt _ hn
  have cq := hc _ hq
  have q0 : (0 : Int) ≤ (((f + j) % ps.length : Nat) : Int) := by omega
  have q1 : (((f + j) % ps.length : Nat) : Int) < (ps.length : Int) := by omega
  have q2 : (0 + (f + j) % ps.length) = (f + j) % ps.length := Nat.zero_add _
  have hc1 : decide ((j : Int) < 0) = false := by simp
  clear h hc hq hle hlr hr1 hn
  generalize (f + j) % ps.length = q at *
  go_enter Try.func122, Try.ntmps122
  go_wp2_with fail
  refine LN.out.mono ?_
  rintro e w' ⟨rfl, rfl⟩
  go_wp2
  go_quiet ((go_at_call 112; exact Calls.quiet_of (PL.out _)))
  go_wp2
  go_ret2
  exact ⟨rfl, _, rfl⟩
theorem at_outI {w : World} {base B : Nat} {room : Int} {v : Value} {ps : List Int} {f k : Nat} (h : RingAtI w base B room v ps f k) (i : Int) (i0 : i < 0 ∨ k ≤ i) :
    Calls Try.prog 122 #[.pointer (some ⟨B, 0, none⟩), .int .i64 i] w fun e w' => e = .returned (.tuple #[Value.int .i64 0, .bool false]) ∧ w = w' := by
  have LN := Lib.hid (lenI h)
  clear h
  rcases Int.lt_or_le i 0 with hi | hi
  · go_enter Try.func122, Try.ntmps122
    go_wp2
    go_ret2
    exact ⟨rfl, rfl⟩
  · have hk : (k : Int) ≤ i := by omega
    have hn : ¬ i < 0 := by omega
    clear i0
    go_enter Try.func122, Try.ntmps122
    go_wp2_with fail
    refine LN.out.mono ?_
    rintro e w' ⟨rfl, rfl⟩
    go_wp2
    go_ret2
    exact ⟨rfl, rfl⟩
theorem head_inI {w : World} {base B : Nat} {room : Int} {v : Value} {ps : List Int} {f k : Nat} (h : RingAtI w base B room v ps f k) (hk : 0 < k) :
    Calls Try.prog 104 #[.pointer (some ⟨B, 0, none⟩)] w fun e w' => e = .returned (.tuple #[Value.int .i64 ((cont 0 ps f k).getD 0 0), .bool true]) ∧ ∃ n, w' = w.drewN n := by
  have AT := Lib.hid (at_inI h 0 (by omega) (by omega))
  clear h
  rw [show (0 : Int).toNat = 0 from rfl] at AT
  generalize (cont 0 ps f k).getD 0 0 = x at *
  go_enter Try.func104, Try.ntmps104
  go_wp2_with fail
  refine AT.out.mono ?_
  rintro e w' ⟨rfl, n, rfl⟩
  go_wp2
  go_ret2
  exact ⟨rfl, _, rfl⟩
theorem head_outI {w : World} {base B : Nat} {room : Int} {v : Value} {ps : List Int} {f : Nat} (h : RingAtI w base B room v ps f 0) :
    Calls Try.prog 104 #[.pointer (some ⟨B, 0, none⟩)] w fun e w' => e = .returned (.tuple #[Value.int .i64 0, .bool false]) ∧ w = w' := by
  have AT := Lib.hid (at_outI h 0 (by omega))
  clear h
  go_enter Try.func104, Try.ntmps104
  go_wp2_with fail
  refine AT.out.mono ?_
  rintro e w' ⟨rfl, rfl⟩
  go_wp2
  go_ret2
  exact ⟨rfl, rfl⟩
end Go.Proofs.Ytiogfgkfipekbaa
