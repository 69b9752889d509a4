/-
  What package meter's calls return for any meters, ticks and packets. No condition but that the numbers are words.
-/
import Derived.Test.YtmkgadndfiiacaaMt1
import Derived.StillTailTactics
namespace Go.Proofs.Ytmkgadndfiiacaa
set_option linter.unusedVariables false
set_option linter.unusedSimpArgs false
open Go.ChangeShapes Go.WideShapes Go.ChangeAt Go.RowKit
attribute [local go_sem] alloc_drewN setCell_drewN

def MO.tick (m : MO) (x : Int) : MO := if m.ok then ⟨m.r, m.n, m.f, m.a + min (m.r * x) (m.n - m.a), m.b + min (m.r * x - min (m.r * x) (m.n - m.a)) (m.f - m.b)⟩ else ⟨0, 0, 0, 0, 0⟩
def MT.tick (m : MT) (x : Int) : MT := if m.ok then ⟨m.s, m.q, m.n, m.f, min (m.a + m.s * x) m.n, min (m.b + m.q * x) m.f⟩ else ⟨0, 0, 0, 0, 0, 0⟩
def MO.col (m : MO) (k c : Int) : MO × Int := if m.ok then (if c = 3 then (m, 3) else if c ≠ 2 ∧ k ≤ m.a then (⟨m.r, m.n, m.f, m.a - k, m.b⟩, 1) else if k ≤ m.b then (⟨m.r, m.n, m.f, m.a, m.b - k⟩, 2) else (m, 3)) else (⟨0, 0, 0, 0, 0⟩, 3)
def MT.col (m : MT) (k c : Int) : MT × Int := if m.ok then (if c = 3 ∨ m.b < k then (m, 3) else if c = 2 ∨ m.a < k then (⟨m.s, m.q, m.n, m.f, m.a, m.b - k⟩, 2) else (⟨m.s, m.q, m.n, m.f, m.a - k, m.b - k⟩, 1)) else (⟨0, 0, 0, 0, 0, 0⟩, 3)
theorem sub64_0 (x y : Int) (hx : 0 ≤ x) (hy : 0 ≤ y) (hy1 : y ≤ 18446744073709551615) (w : World) : (callFunc 80 #[.int .u64 x, .int .u64 y, .int .u64 0]).run Try.prog w =
    .ok (.value (.tuple #[.int .u64 ((x + 18446744073709551616 - y) % 18446744073709551616), .int .u64 (if x < y then 1 else 0)])) w := by
  obtain ⟨x, rfl⟩ := Int.eq_ofNat_of_zero_le hx
  obtain ⟨y, rfl⟩ := Int.eq_ofNat_of_zero_le hy
  rw [run_callFunc_extern Try.func80 (by kernel_rfl) (by kernel_rfl) (by kernel_rfl) (e := Go.Proofs.sub64Entry) (by kernel_rfl)]
  have := Go.Proofs.run_sub64 (P := Try.prog) x y 0 (by omega) w
  rw [show (Value.int IntKind.u64 0) = .int .u64 ((0 : Nat) : Int) from rfl, this]
  simp only [Result.andThen]
  have e1 : (((x + 18446744073709551616 - y - 0) % 18446744073709551616 : Nat) : Int) = ((x : Int) + 18446744073709551616 - y) % 18446744073709551616 := by omega
  have e2 : ((if x < y + 0 then 1 else 0 : Nat) : Int) = if (x : Int) < y then 1 else 0 := by split <;> split <;> omega
  rw [e1, e2]
theorem up_to (room h l P : Int) (l0 : 0 ≤ l) (l1 : l ≤ 18446744073709551615) (h0 : 0 ≤ h) (r1 : room ≤ 18446744073709551615) (hP : P = h * 18446744073709551616 + l) (w : World) :
    Calls Try.prog 79 #[.int .u64 room, .int .u64 h, .int .u64 l] w fun e w' => e = .returned (.int .u64 (min P room)) ∧ w = w' := by
  by_cases hh : h = 0
  · subst hh
    by_cases hl : l ≤ room
    · rw [show min P room = l by omega]
      have hmn : min l room = l := by omega
      clear hP
      go_enter Try.func79, Try.ntmps79
      go_wp2
      go_ret
      exact ⟨rfl, rfl⟩
    · rw [show min P room = room by omega]
      have h2 : room < l := by omega
      have hmn : min l room = room := by omega
      clear hP hl
      go_enter Try.func79, Try.ntmps79
      go_wp2
      go_ret
      exact ⟨rfl, rfl⟩
  · have h2 : 0 < h := by omega
    rw [show min P room = room by omega]
    clear hP hh
    go_enter Try.func79, Try.ntmps79
    go_wp2
    go_ret
    exact ⟨rfl, rfl⟩
end Go.Proofs.Ytmkgadndfiiacaa
