/-
  Layer 31: one decimal with a greatest value, an address out of its parts, and the parts of an address, as the program has them. What the library's variables hold is handed on. No condition but that a text is not too long.
-/
import Derived.Test.YtffedahmakhjeaaDoorAdr3
import Derived.Test.YtffedahmakhjeaaDoorDigGet
import Derived.Test.YtffedahmakhjeaaDoorDigPut
import Derived.Test.YtffedahmakhjeaaDoorSum1b
import Derived.WalkSmall
namespace Go.Proofs.YtffedahmakhjeaaDoor
set_option linter.unusedVariables false
set_option linter.unusedSimpArgs false
open Go.ChangeShapes Go.WideShapes Go.ChangeAt Go.RowKit
attribute [local go_sem] alloc_drewN setCell_drewN

/-- What the library's variables hold. -/
structure Held31 (w : World) : Prop where
  max : ∃ m, w.cell? ⟨0, 0, none⟩ = some (.int .i64 m)
  err : ∃ te pe, w.cell? ⟨5, 0, none⟩ = some (.iface te pe)
  tab : Lib.TabIs Tryd.prog w "internal/strconv.uint64pow10" .u64 Lib.pow10Tab
  mlt : 0 < w.heap.size
  elt : 5 < w.heap.size
  tlt : 1 < w.heap.size
theorem Held31.below {w w' : World} (h : Held31 w) (hb : Below w.heap.size w w') : Held31 w' := by
  obtain ⟨⟨m, hm⟩, ⟨te, pe, he⟩, ht, h0, h1, h2⟩ := h
  have hs := hb.size
  exact ⟨⟨m, (hb.cell (p := ⟨0, 0, none⟩) h0).trans hm⟩, ⟨te, pe, (hb.cell (p := ⟨5, 0, none⟩) h1).trans he⟩, var?_below hb (by kernel_rfl) h2 ht, by omega, by omega, by omega⟩
theorem get31 (s : ByteArray) (hs : s.size ≤ 1000000) (w : World) (h : Held31 w) :
    Calls Tryd.prog 40 #[.string s] w fun e w' => e = .returned (.tuple #[.int .u64 (rd s).1, .int .i64 (rd s).2]) ∧ Below w.heap.size w w' := by
  obtain ⟨te, pe, he⟩ := h.err
  exact read_any s hs te pe w he h.elt
theorem put31 (n : Int) (n0 : 0 ≤ n) (n1 : n ≤ 18446744073709551615) (w : World) (h : Held31 w) :
    Calls Tryd.prog 32 #[.int .u64 n] w fun e w' => e = .returned (.string (dec n)) ∧ Below w.heap.size w w' := put_any2 n n0 n1 w h.tab
/-- A decimal that must not be greater than so much. -/
noncomputable def nb (s : ByteArray) (m : Int) : Int × Int := if (rd s).2 = 0 ∧ m < (rd s).1 then (0, 5) else rd s
set_option maxRecDepth 100000 in
theorem number_any (s : ByteArray) (hs : s.size ≤ 1000000) (m : Int) (w : World) (h : Held31 w) :
    Calls Tryd.prog 26 #[.string s, .int .u64 m] w fun e w' => e = .returned (.tuple #[.int .u64 (nb s m).1, .int .i64 (nb s m).2]) ∧ Below w.heap.size w w' := by
  have G := Lib.hid (get31 s hs w h)
  unfold nb
  generalize rd s = r at *
  obtain ⟨r1, r2⟩ := r
  dsimp only at G ⊢
  by_cases h0 : r2 = 0
  · subst h0
    by_cases hm : m < r1
    · rw [if_pos ⟨rfl, hm⟩]
      have g : m < r1 := hm
      go_enter Tryd.func26, Tryd.ntmps26
      go_wp2_with fail
      refine (G.out).mono ?_
      rintro e w' ⟨rfl, hb⟩
      go_wp2
      go_ret2
      exact ⟨rfl, hb⟩
    · rw [if_neg (fun h => hm h.2)]
      go_enter Tryd.func26, Tryd.ntmps26
      go_wp2_with fail
      refine (G.out).mono ?_
      rintro e w' ⟨rfl, hb⟩
      go_wp2
      go_ret2
      exact ⟨rfl, hb⟩
  · rw [if_neg (fun h => h0 h.1)]
    have g : (r2 == 0) = false := by simp [h0]
    go_enter Tryd.func26, Tryd.ntmps26
    go_wp2_with fail
    refine (G.out).mono ?_
    rintro e w' ⟨rfl, hb⟩
    go_wp2
    go_ret2
    exact ⟨rfl, hb⟩
theorem arr_0 (v0 v1 v2 v3 : Int) (w : World) : (Instr.index 49 (.agg #[.int .u8 v0, .int .u8 v1, .int .u8 v2, .int .u8 v3]) (.int .i64 0)).run Tryd.prog w = .ok (.int .u8 v0) w := by
  have z1 := Tryd.sizeOf5
  simp [Instr.index, run_underlying Tryd.underlying49, asIntOf, go_sem, part, z1]
theorem arr_1 (v0 v1 v2 v3 : Int) (w : World) : (Instr.index 49 (.agg #[.int .u8 v0, .int .u8 v1, .int .u8 v2, .int .u8 v3]) (.int .i64 1)).run Tryd.prog w = .ok (.int .u8 v1) w := by
  have z1 := Tryd.sizeOf5
  simp [Instr.index, run_underlying Tryd.underlying49, asIntOf, go_sem, part, z1]
theorem arr_2 (v0 v1 v2 v3 : Int) (w : World) : (Instr.index 49 (.agg #[.int .u8 v0, .int .u8 v1, .int .u8 v2, .int .u8 v3]) (.int .i64 2)).run Tryd.prog w = .ok (.int .u8 v2) w := by
  have z1 := Tryd.sizeOf5
  simp [Instr.index, run_underlying Tryd.underlying49, asIntOf, go_sem, part, z1]
theorem arr_3 (v0 v1 v2 v3 : Int) (w : World) : (Instr.index 49 (.agg #[.int .u8 v0, .int .u8 v1, .int .u8 v2, .int .u8 v3]) (.int .i64 3)).run Tryd.prog w = .ok (.int .u8 v3) w := by
  have z1 := Tryd.sizeOf5
  simp [Instr.index, run_underlying Tryd.underlying49, asIntOf, go_sem, part, z1]
attribute [local go_sem] arr_0 arr_1 arr_2 arr_3
set_option maxRecDepth 100000 in
theorem join_any (x0 x1 x2 x3 : Int) (a0 : 0 ≤ x0 ∧ x0 ≤ 255) (a1 : 0 ≤ x1 ∧ x1 ≤ 255) (a2 : 0 ≤ x2 ∧ x2 ≤ 255) (a3 : 0 ≤ x3 ∧ x3 ≤ 255) (w : World) :
    Calls Tryd.prog 27 #[.agg #[.int .u8 x0, .int .u8 x1, .int .u8 x2, .int .u8 x3]] w fun e w' => e = .returned (.int .u32 (((x0 * 256 + x1) * 256 + x2) * 256 + x3)) ∧ Below w.heap.size w w' := by
  have o0 := or_byte32 0 x0 (by omega) (by omega) a0.1 a0.2
  have o1 := or_byte32 x0 x1 (by omega) (by omega) a1.1 a1.2
  have o2 := or_byte32 (x0 * 256 + x1) x2 (by omega) (by omega) a2.1 a2.2
  have o3 := or_byte32 ((x0 * 256 + x1) * 256 + x2) x3 (by omega) (by omega) a3.1 a3.2
  rw [Int.zero_mul, Int.zero_add] at o0
  obtain ⟨p0, q0⟩ := a0; obtain ⟨p1, q1⟩ := a1; obtain ⟨p2, q2⟩ := a2; obtain ⟨p3, q3⟩ := a3
  go_enter Tryd.func27, Tryd.ntmps27
  go_wp2
  refine wp_loop_rounds 5 ?_
  rw [rounds_succ]
  go_wp2
  rw [rounds_succ]
  go_wp2
  rw [rounds_succ]
  go_wp2
  rw [rounds_succ]
  go_wp2
  rw [rounds_succ]
  go_wp2
  go_ret
  exact ⟨rfl, (Below.refl _ w).alloc (Nat.le_refl _) _⟩
end Go.Proofs.YtffedahmakhjeaaDoor
