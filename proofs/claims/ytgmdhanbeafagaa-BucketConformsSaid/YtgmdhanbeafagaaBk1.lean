/-
  What package bucket and the document's answer return for any bucket, ticks and tokens. No condition but that the numbers are words.
-/
import Derived.Test.YtgmdhanbeafagaaVal
import Derived.Test.YtgmdhanbeafagaaDivUp
import Derived.StillTailTactics
namespace Go.Proofs.Ytgmdhanbeafagaa
set_option linter.unusedVariables false
set_option linter.unusedSimpArgs false
open Go.ChangeShapes Go.WideShapes Go.ChangeAt Go.RowKit
attribute [local go_sem] alloc_drewN setCell_drewN

/-- A bucket: what comes in each tick, how many there are at most, how many there are. -/
structure BK where
  r : Int
  b : Int
  t : Int
deriving DecidableEq
def BK.val (s : BK) : Value := .agg #[.int .u64 s.r, .int .u64 s.b, .int .u64 s.t]
def BK.cells (s : BK) : Array Value := #[.int .u64 s.r, .int .u64 s.b, .int .u64 s.t]
def BK.wd (s : BK) : Prop := (0 ≤ s.r ∧ s.r ≤ 18446744073709551615) ∧ (0 ≤ s.b ∧ s.b ≤ 18446744073709551615) ∧ 0 ≤ s.t ∧ s.t ≤ 18446744073709551615
/-- What is wrong with one. -/
def bck (r b t : Int) : Int := if r = 0 then 27 else if b = 0 ∨ b < t then 28 else 0
def BK.ok (s : BK) : Prop := s.r ≠ 0 ∧ s.b ≠ 0 ∧ s.t ≤ s.b
instance (s : BK) : Decidable s.ok := inferInstanceAs (Decidable (s.r ≠ 0 ∧ s.b ≠ 0 ∧ s.t ≤ s.b))
theorem bck_ok {r b t : Int} : bck r b t = 0 ↔ BK.ok ⟨r, b, t⟩ := by
  unfold bck BK.ok
  dsimp only
  split
  · constructor
    · intro h; omega
    · rintro ⟨h, _⟩; omega
  · split
    · constructor
      · intro h; omega
      · rintro ⟨_, h, h2⟩; omega
    · constructor
      · intro h; refine ⟨by omega, by omega, by omega⟩
      · intro h; rfl
def BK.tick (s : BK) (x : Int) : BK := if s.ok then ⟨s.r, s.b, min (s.t + s.r * x) s.b⟩ else ⟨0, 0, 0⟩
def BK.take (s : BK) (n : Int) : BK × Bool := if s.ok then (if s.t < n then (s, false) else (⟨s.r, s.b, s.t - n⟩, true)) else (⟨0, 0, 0⟩, false)
def BK.wait (s : BK) (n : Int) : Int × Bool := if s.ok ∧ n ≤ s.b then (up (sub0 n s.t) s.r, true) else (0, false)

theorem bk_check (r b t : Int) (w : World) :
    Calls Try.prog 23 #[.agg #[.int .u64 r, .int .u64 b, .int .u64 t]] w fun e w' => e = .returned (.int .i64 (bck r b t)) ∧ w' = w.alloc (.cells #[.int .u64 r, .int .u64 b, .int .u64 t] 25) := by
  unfold bck
  by_cases h1 : r = 0
  · subst h1
    rw [if_pos rfl]
    go_enter Try.func23, Try.ntmps23
    go_wp2
    go_ret
    exact ⟨rfl, rfl⟩
  · rw [if_neg h1]
    have g1 : (r == 0) = false := by simp [h1]
    by_cases h2 : b = 0
    · subst h2
      rw [if_pos (Or.inl rfl)]
      clear h1
      go_enter Try.func23, Try.ntmps23
      go_wp2
      go_ret
      exact ⟨rfl, rfl⟩
    · have g2 : (b == 0) = false := by simp [h2]
      by_cases h3 : b < t
      · rw [if_pos (Or.inr h3)]
        clear h1 h2
        go_enter Try.func23, Try.ntmps23
        go_wp2
        go_ret
        exact ⟨rfl, rfl⟩
      · rw [if_neg (by omega)]
        have h4 : t ≤ b := by omega
        clear h1 h2 h3
        go_enter Try.func23, Try.ntmps23
        go_wp2
        go_ret
        exact ⟨rfl, rfl⟩
theorem bk_rcheck (r b t : Int) (w : World) :
    Calls Try.prog 22 #[.agg #[.int .u64 r, .int .u64 b, .int .u64 t]] w fun e w' => e = .returned (.int .i64 (bck r b t)) ∧ w' = w.alloc (.cells #[.int .u64 r, .int .u64 b, .int .u64 t] 24) := by
  unfold bck
  by_cases h1 : r = 0
  · subst h1
    rw [if_pos rfl]
    go_enter Try.func22, Try.ntmps22
    go_wp2
    go_ret
    exact ⟨rfl, rfl⟩
  · rw [if_neg h1]
    have g1 : (r == 0) = false := by simp [h1]
    by_cases h2 : b = 0
    · subst h2
      rw [if_pos (Or.inl rfl)]
      clear h1
      go_enter Try.func22, Try.ntmps22
      go_wp2
      go_ret
      exact ⟨rfl, rfl⟩
    · have g2 : (b == 0) = false := by simp [h2]
      by_cases h3 : b < t
      · rw [if_pos (Or.inr h3)]
        clear h1 h2
        go_enter Try.func22, Try.ntmps22
        go_wp2
        go_ret
        exact ⟨rfl, rfl⟩
      · rw [if_neg (by omega)]
        have h4 : t ≤ b := by omega
        clear h1 h2 h3
        go_enter Try.func22, Try.ntmps22
        go_wp2
        go_ret
        exact ⟨rfl, rfl⟩

end Go.Proofs.Ytgmdhanbeafagaa
