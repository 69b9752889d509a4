/-
  Which class may be, and for how long it waits: what package credit returns for any. No condition but that numbers are words.
-/
import Derived.Test.YtcieggckmpabnaaVal
import Derived.Test.YtcieggckmpabnaaRows
import Derived.RegionTactic
namespace Go.Proofs.Ytcieggckmpabnaa
set_option linter.unusedVariables false
set_option linter.unusedSimpArgs false
open Go.ChangeShapes Go.WideShapes Go.ChangeAt Go.RowKit
attribute [local go_sem] alloc_drewN setCell_drewN

/-- A class. -/
structure CD where
  i : Int
  s : Int
  h : Int
  v : Int
deriving DecidableEq
def CD.val (c : CD) : Value := .agg #[.int .i64 c.i, .int .i64 c.s, .int .i64 c.h, .int .i64 c.v]
theorem cd_val (i s h v : Int) : (CD.mk i s h v).val = .agg #[.int .i64 i, .int .i64 s, .int .i64 h, .int .i64 v] := rfl
def CD.ok (c : CD) : Prop := (1 ≤ c.i ∧ c.i ≤ 1048576) ∧ (1 ≤ c.s ∧ c.s ≤ 1048576) ∧ (1 ≤ c.h ∧ c.h ≤ 1048576) ∧ -1099511627776 ≤ c.v ∧ c.v ≤ c.h
instance (c : CD) : Decidable c.ok := inferInstanceAs (Decidable (_ ∧ _ ∧ _ ∧ _ ∧ _))
def cre (i s h v : Int) : Int := if CD.ok ⟨i, s, h, v⟩ then 0 else 6
def need (i v m : Int) : Int := (max (m - v) 0 + i - 1) / i
def CD.tick (c : CD) (x : Int) (b : Bool) : CD := if c.ok then ⟨c.i, c.s, c.h, if b = true then min (c.v + c.i * x) c.h else if 0 ≤ c.v then 0 else min (c.v + c.i * x) 0⟩ else ⟨0, 0, 0, 0⟩
def CD.sent (c : CD) (n : Int) : CD × Bool := if c.ok then (if 0 ≤ c.v ∧ n ≤ 65535 then (⟨c.i, c.s, c.h, c.v - c.s * n⟩, true) else (c, false)) else (⟨0, 0, 0, 0⟩, false)
def CD.wait (c : CD) : Int := if c.ok then need c.i c.v 0 else 0
def CD.may (c : CD) : Bool := decide (c.ok ∧ 0 ≤ c.v)
theorem need_is {i v m : Int} (hi : 1 ≤ i) : 0 ≤ need i v m ∧ m - v ≤ i * need i v m ∧ (0 < need i v m → i * (need i v m - 1) < m - v) ∧ (need i v m = 0 ↔ m ≤ v) := by
  have h1 := Int.mul_ediv_add_emod (max (m - v) 0 + i - 1) i
  have h2 := Int.emod_lt_of_pos (max (m - v) 0 + i - 1) (show 0 < i by omega)
  have h3 := Int.emod_nonneg (max (m - v) 0 + i - 1) (b := i) (by omega)
  have h4 : 0 ≤ need i v m := Int.ediv_nonneg (by omega) (by omega)
  have e : need i v m = (max (m - v) 0 + i - 1) / i := rfl
  rw [← e] at h1
  generalize (max (m - v) 0 + i - 1) % i = q at *
  generalize need i v m = z at *
  rw [Int.mul_sub]
  refine ⟨h4, by omega, fun hp => ?_, ?_, ?_⟩
  · have : i * 1 ≤ i * z := Int.mul_le_mul_of_nonneg_left (by omega) (by omega)
    omega
  · intro hz; subst hz; rw [Int.mul_zero] at h1; omega
  · intro hz
    by_cases h : 0 < z
    · have : i * 1 ≤ i * z := Int.mul_le_mul_of_nonneg_left (by omega) (by omega)
      omega
    · omega
set_option maxRecDepth 100000 in
set_option maxHeartbeats 4000000 in
theorem cr_check (i s h v : Int) (w : World) :
    Calls Try.prog 58 #[.agg #[.int .i64 i, .int .i64 s, .int .i64 h, .int .i64 v]] w fun e w' => e = .returned (.int .i64 (cre i s h v)) ∧ w' = w.alloc (.cells #[.int .i64 i, .int .i64 s, .int .i64 h, .int .i64 v] 123) := by
  have hx0 : ∀ W : World, (Instr.index 191 (.agg #[.int .i64 i, .int .i64 s, .int .i64 h]) (.int .i64 0)).run Try.prog W = .ok (.int .i64 i) W := fun _ => by kernel_rfl
  have hx1 : ∀ W : World, (Instr.index 191 (.agg #[.int .i64 i, .int .i64 s, .int .i64 h]) (.int .i64 1)).run Try.prog W = .ok (.int .i64 s) W := fun _ => by kernel_rfl
  have hx2 : ∀ W : World, (Instr.index 191 (.agg #[.int .i64 i, .int .i64 s, .int .i64 h]) (.int .i64 2)).run Try.prog W = .ok (.int .i64 h) W := fun _ => by kernel_rfl
  by_cases a0 : i < 1
  · have ga0 : decide (i < 1) = true := decide_eq_true a0
    rw [show cre i s h v = 6 from if_neg (fun k => by have := k.1.1; dsimp only at this; omega)]
    clear  a0
    go_enter Try.func58, Try.ntmps58
    go_wp2
    refine wp_loop_rounds 4 ?_
    rw [rounds_succ]
    go_wp2
    go_ret
    exact ⟨rfl, rfl⟩
  · have ga0 : decide (i < 1) = false := decide_eq_false a0
    by_cases b0 : 1048576 < i
    · have gb0 : decide (1048576 < i) = true := decide_eq_true b0
      rw [show cre i s h v = 6 from if_neg (fun k => by have := k.1.2; dsimp only at this; omega)]
      clear  a0 b0
      go_enter Try.func58, Try.ntmps58
      go_wp2
      refine wp_loop_rounds 4 ?_
      rw [rounds_succ]
      go_wp2
      go_ret
      exact ⟨rfl, rfl⟩
    · have gb0 : decide (1048576 < i) = false := decide_eq_false b0
      by_cases a1 : s < 1
      · have ga1 : decide (s < 1) = true := decide_eq_true a1
        rw [show cre i s h v = 6 from if_neg (fun k => by have := k.2.1.1; dsimp only at this; omega)]
        clear a0 b0 a1
        go_enter Try.func58, Try.ntmps58
        go_wp2
        refine wp_loop_rounds 4 ?_
        rw [rounds_succ]
        go_wp2
        rw [rounds_succ]
        go_wp2
        go_ret
        exact ⟨rfl, rfl⟩
      · have ga1 : decide (s < 1) = false := decide_eq_false a1
        by_cases b1 : 1048576 < s
        · have gb1 : decide (1048576 < s) = true := decide_eq_true b1
          rw [show cre i s h v = 6 from if_neg (fun k => by have := k.2.1.2; dsimp only at this; omega)]
          clear a0 b0 a1 b1
          go_enter Try.func58, Try.ntmps58
          go_wp2
          refine wp_loop_rounds 4 ?_
          rw [rounds_succ]
          go_wp2
          rw [rounds_succ]
          go_wp2
          go_ret
          exact ⟨rfl, rfl⟩
        · have gb1 : decide (1048576 < s) = false := decide_eq_false b1
          by_cases a2 : h < 1
          · have ga2 : decide (h < 1) = true := decide_eq_true a2
            rw [show cre i s h v = 6 from if_neg (fun k => by have := k.2.2.1.1; dsimp only at this; omega)]
            clear a0 b0 a1 b1 a2
            go_enter Try.func58, Try.ntmps58
            go_wp2
            refine wp_loop_rounds 4 ?_
            rw [rounds_succ]
            go_wp2
            rw [rounds_succ]
            go_wp2
            rw [rounds_succ]
            go_wp2
            go_ret
            exact ⟨rfl, rfl⟩
          · have ga2 : decide (h < 1) = false := decide_eq_false a2
            by_cases b2 : 1048576 < h
            · have gb2 : decide (1048576 < h) = true := decide_eq_true b2
              rw [show cre i s h v = 6 from if_neg (fun k => by have := k.2.2.1.2; dsimp only at this; omega)]
              clear a0 b0 a1 b1 a2 b2
              go_enter Try.func58, Try.ntmps58
              go_wp2
              refine wp_loop_rounds 4 ?_
              rw [rounds_succ]
              go_wp2
              rw [rounds_succ]
              go_wp2
              rw [rounds_succ]
              go_wp2
              go_ret
              exact ⟨rfl, rfl⟩
            · have gb2 : decide (1048576 < h) = false := decide_eq_false b2
              by_cases a3 : v < -1099511627776
              · have ga3 : decide (v < -1099511627776) = true := decide_eq_true a3
                rw [show cre i s h v = 6 from if_neg (fun k => by have := k.2.2.2.1; dsimp only at this; omega)]
                clear a0 b0 a1 b1 a2 b2 a3
                go_enter Try.func58, Try.ntmps58
                go_wp2
                refine wp_loop_rounds 4 ?_
                rw [rounds_succ]
                go_wp2
                rw [rounds_succ]
                go_wp2
                rw [rounds_succ]
                go_wp2
                rw [rounds_succ]
                go_wp2
                go_ret
                exact ⟨rfl, rfl⟩
              · have ga3 : decide (v < -1099511627776) = false := decide_eq_false a3
                by_cases b3 : h < v
                · have gb3 : decide (h < v) = true := decide_eq_true b3
                  rw [show cre i s h v = 6 from if_neg (fun k => by have := k.2.2.2.2; dsimp only at this; omega)]
                  clear a0 b0 a1 b1 a2 b2 a3 b3
                  go_enter Try.func58, Try.ntmps58
                  go_wp2
                  refine wp_loop_rounds 4 ?_
                  rw [rounds_succ]
                  go_wp2
                  rw [rounds_succ]
                  go_wp2
                  rw [rounds_succ]
                  go_wp2
                  rw [rounds_succ]
                  go_wp2
                  go_ret
                  exact ⟨rfl, rfl⟩
                · have gb3 : decide (h < v) = false := decide_eq_false b3
                  rw [show cre i s h v = 0 from if_pos ⟨⟨by show 1 ≤ i; omega, by show i ≤ _; omega⟩, ⟨by show 1 ≤ s; omega, by show s ≤ _; omega⟩, ⟨by show 1 ≤ h; omega, by show h ≤ _; omega⟩, by show _ ≤ v; omega, by show v ≤ h; omega⟩]
                  clear a0 b0 a1 b1 a2 b2 a3 b3
                  go_enter Try.func58, Try.ntmps58
                  go_wp2
                  refine wp_loop_rounds 4 ?_
                  rw [rounds_succ]
                  go_wp2
                  rw [rounds_succ]
                  go_wp2
                  rw [rounds_succ]
                  go_wp2
                  rw [rounds_succ]
                  go_wp2
                  go_ret
                  exact ⟨rfl, rfl⟩
set_option maxRecDepth 100000 in
set_option maxHeartbeats 4000000 in
theorem cr_to (i s h v m : Int) (i0 : 1 ≤ i) (i1 : i ≤ 1048576) (v0 : -1099511627776 ≤ v) (v1 : v ≤ 1048576) (m0 : 0 ≤ m) (m1 : m ≤ 1048576) (w : World) :
    Calls Try.prog 104 #[.agg #[.int .i64 i, .int .i64 s, .int .i64 h, .int .i64 v], .int .i64 m] w fun e w' => e = .returned (.int .u64 (need i v m)) ∧ Below w.heap.size w w' := by
  unfold need
  have hz : 0 ≤ max (m - v) 0 + i - 1 := by omega
  have z0 : 0 ≤ (max (m - v) 0 + i - 1) / i := Int.ediv_nonneg hz (by omega)
  have z1 : (max (m - v) 0 + i - 1) / i ≤ 1099515000000 := Int.le_trans (Int.ediv_le_self i hz) (by omega)
  have e : IntKind.i64.wrap ((max (m - v) 0 + i - 1).tdiv i) = (max (m - v) 0 + i - 1) / i := by rw [Int.tdiv_eq_ediv_of_nonneg hz, IntKind.wrap_i64]; omega
  have e2 : IntKind.u64.wrap ((max (m - v) 0 + i - 1) / i) = (max (m - v) 0 + i - 1) / i := by rw [IntKind.wrap_u64]; omega
  have gi : (i == 0) = false := by simp; omega
  by_cases hm : m - v < 0
  · rw [show max (m - v) 0 = 0 by omega] at *
    generalize (0 + i - 1) / i = z at *
    rw [show (0 : Int) + i - 1 = i - 1 by omega] at e
    clear hz
    go_enter Try.func104, Try.ntmps104
    go_wp2
    go_ret
    exact ⟨rfl, by (repeat' (first | (with_reducible exact Below.refl _ _) | (with_reducible assumption) | (with_reducible refine below_drewN _ ?_) | (with_reducible refine Below.drew ?_) | (with_reducible refine Below.setCell ?_ (by simp) _) | (with_reducible refine Below.alloc ?_ (by simp; try omega) _)))⟩
  · rw [show max (m - v) 0 = m - v by omega] at *
    have hm' : v ≤ m := by omega
    generalize (m - v + i - 1) / i = z at *
    clear hz hm
    go_enter Try.func104, Try.ntmps104
    go_wp2
    go_ret
    exact ⟨rfl, by (repeat' (first | (with_reducible exact Below.refl _ _) | (with_reducible assumption) | (with_reducible refine below_drewN _ ?_) | (with_reducible refine Below.drew ?_) | (with_reducible refine Below.setCell ?_ (by simp) _) | (with_reducible refine Below.alloc ?_ (by simp; try omega) _)))⟩
end Go.Proofs.Ytcieggckmpabnaa
