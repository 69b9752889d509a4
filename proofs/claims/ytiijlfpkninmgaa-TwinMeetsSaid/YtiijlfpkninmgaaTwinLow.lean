/-
  Package twin: is a place on a low level; the place above one. The world is as it was. No condition.
-/
import Derived.Test.YtiijlfpkninmgaaTwinMath
import Derived.Test.YtiijlfpkninmgaaBase
import Derived.Test.YtiijlfpkninmgaaRows
import Derived.Test.YtiijlfpkninmgaaShelf
import Derived.Outline
namespace Go.Proofs.Ytiijlfpkninmgaa
set_option linter.unusedVariables false
set_option linter.unusedSimpArgs false
open Go.ChangeShapes Go.WideShapes Go.ChangeAt Go.RowKit

theorem lowB_bits : ∀ (i : Nat), i + 1 < 2 ^ 64 → decide (Lib.bitLen (i + 1) % 2 = 1) = lowB i
  | 0, _ => by rw [lowB_0]; decide +kernel
  | k + 1, h => by
    have e := Lib.bitLen_half (k + 1 + 1) (by omega) h
    have e2 : (k + 1 + 1) / 2 = k / 2 + 1 := by omega
    rw [e2] at e
    have ih := lowB_bits (k / 2) (by omega)
    rw [lowB, ← ih, e]
    by_cases h2 : Lib.bitLen (k / 2 + 1) % 2 = 1
    · rw [decide_eq_true h2, decide_eq_false (by omega)]; rfl
    · rw [decide_eq_false h2, decide_eq_true (by omega)]; rfl
termination_by i => i
decreasing_by omega
theorem tparent (i : Nat) (hi : 0 < i) (h : i < 65536) (w : World) :
    Calls Try.prog 102 #[.int .i64 i] w fun e w' => e = .returned (.int .i64 (par i : Nat)) ∧ w = w' := by
  have e1 : ((i : Int) - 1).tdiv 2 = ((par i : Nat) : Int) := by unfold par; rw [Int.tdiv_eq_ediv_of_nonneg (by omega)]; omega
  have hp : par i < 65536 := by unfold par; omega
  generalize par i = p at *
  go_enter Try.func102, Try.ntmps102
  go_wp2
  go_ret
  exact ⟨rfl, rfl⟩
theorem tislow (i : Nat) (h : i < 65536) (w : World) :
    Calls Try.prog 101 #[.int .i64 i] w fun e w' => e = .returned (.bool (lowB i)) ∧ w = w' := by
  have BL := Try.bits_Len ((i : Int) + 1) w (by omega) (by omega)
  have e0 : ((i : Int) + 1).toNat = i + 1 := by omega
  rw [e0] at BL
  have hd := lowB_bits i (by omega)
  have hle : Lib.bitLen (i + 1) ≤ 64 := Lib.bitLen_le _ _ (by omega) (by omega)
  have e1 : ((Lib.bitLen (i + 1) : Nat) : Int).tmod 2 = ((Lib.bitLen (i + 1) % 2 : Nat) : Int) := by rw [Int.tmod_eq_emod_of_nonneg (by omega)]; omega
  have BH := Lib.hid BL
  have HD := Lib.hid hd
  clear BL hd
  generalize Lib.bitLen (i + 1) = b at *
  have hx : decide (((b % 2 : Nat) : Int) = 1) = decide (b % 2 = 1) := by rw [decide_eq_decide]; omega
  have HX := Lib.hid hx
  clear hx
  generalize hm : b % 2 = m at *
  go_enter Try.func101, Try.ntmps101
  go_wp2_with (go_at_call 93; refine BH.out.mono ?_; rintro e w' ⟨rfl, rfl⟩)
  go_ret
  exact ⟨congrArg (fun b => Ending.returned (Value.bool b)) (show ((m : Int) == 1) = lowB i by rw [← HD.out, ← HX.out]; rfl), rfl⟩
/-- The best of a place and those up to two levels below it. -/
structure TopOut {α : Type} (f : Nat → Ent α) (n : Nat) (b : Bool) (i t : Nat) : Prop where
  way : t = i ∨ (t < n ∧ 0 < t ∧ (par t = i ∨ (2 < t ∧ gp t = i)) ∧ ltB b (f t) (f i))
  best : ∀ k, 0 < k → k < n → (par k = i ∨ (2 < k ∧ gp k = i)) → leB b (f t) (f k)
def kid (i : Nat) : Nat → Nat
  | 0 => 2 * i + 1
  | 1 => 2 * i + 2
  | 2 => 4 * i + 3
  | 3 => 4 * i + 4
  | 4 => 4 * i + 5
  | _ => 4 * i + 6
theorem kid_below (i m : Nat) (hm : m < 6) : 0 < kid i m ∧ kid i m ≤ 4 * i + 6 ∧ (par (kid i m) = i ∨ (2 < kid i m ∧ gp (kid i m) = i)) := by
  match m, hm with
  | 0, _ => simp only [kid, par, gp]; omega
  | 1, _ => simp only [kid, par, gp]; omega
  | 2, _ => simp only [kid, par, gp]; omega
  | 3, _ => simp only [kid, par, gp]; omega
  | 4, _ => simp only [kid, par, gp]; omega
  | 5, _ => simp only [kid, par, gp]; omega
theorem kid_all (i k : Nat) (hk : 0 < k) (h : par k = i ∨ (2 < k ∧ gp k = i)) : ∃ m, m < 6 ∧ k = kid i m := by
  unfold par gp at h
  have : k = 2 * i + 1 ∨ k = 2 * i + 2 ∨ k = 4 * i + 3 ∨ k = 4 * i + 4 ∨ k = 4 * i + 5 ∨ k = 4 * i + 6 := by omega
  rcases this with e | e | e | e | e | e
  · exact ⟨0, by omega, e⟩
  · exact ⟨1, by omega, e⟩
  · exact ⟨2, by omega, e⟩
  · exact ⟨3, by omega, e⟩
  · exact ⟨4, by omega, e⟩
  · exact ⟨5, by omega, e⟩
structure TopI {α : Type} (f : Nat → Ent α) (n : Nat) (b : Bool) (i t m : Nat) : Prop where
  way : t = i ∨ (t < n ∧ 0 < t ∧ (par t = i ∨ (2 < t ∧ gp t = i)) ∧ ltB b (f t) (f i))
  best : ∀ q, q < m → kid i q < n → leB b (f t) (f (kid i q))
theorem TopI.done {α : Type} {f : Nat → Ent α} {n : Nat} {b : Bool} {i t : Nat} (h : TopI f n b i t 6) : TopOut f n b i t := ⟨h.way, fun k hk hkn hd => by
  obtain ⟨m, hm, rfl⟩ := kid_all i k hk hd
  exact h.best m hm hkn⟩
theorem TopI.take {α : Type} {f : Nat → Ent α} {n : Nat} {b : Bool} {i t m : Nat} (h : TopI f n b i t m) (hm : m < 6) (hj : kid i m < n) (hl : ltB b (f (kid i m)) (f t)) : TopI f n b i (kid i m) (m + 1) := by
  obtain ⟨k0, k1, k2⟩ := kid_below i m hm
  refine ⟨Or.inr ⟨hj, k0, k2, ?_⟩, fun q hq hqn => ?_⟩
  · rcases h.way with e | ⟨_, _, _, e⟩
    · rw [e] at hl; exact hl
    · unfold ltB at *
      cases b
      · exact Ent.lt_trans e hl
      · exact Ent.lt_trans hl e
  · by_cases hqm : q = m
    · subst hqm; exact leB_refl _ _
    · exact leB_trans (leB_lt hl) (h.best q (by omega) hqn)
theorem TopI.keep {α : Type} {f : Nat → Ent α} {n : Nat} {b : Bool} {i t m : Nat} (h : TopI f n b i t m) (hl : kid i m < n → ¬ ltB b (f (kid i m)) (f t)) : TopI f n b i t (m + 1) := by
  refine ⟨h.way, fun q hq hqn => ?_⟩
  by_cases hqm : q = m
  · subst hqm; exact hl hqn
  · exact h.best q (by omega) hqn
theorem kid_index (i : Nat) (hi : i < 5000) (m : Nat) (hm : m < 6) (w : World) :
    (Instr.index 186 (.agg #[.int .i64 (2 * (i : Int) + 1), .int .i64 (2 * (i : Int) + 2), .int .i64 (4 * (i : Int) + 3), .int .i64 (4 * (i : Int) + 4), .int .i64 (4 * (i : Int) + 5), .int .i64 (4 * (i : Int) + 6)]) (.int .i64 m)).run Try.prog w = .ok (.int .i64 (kid i m : Nat)) w := by
  have hcast : ∀ (a b c : Nat), (((a * b + c : Nat)) : Int) = (a : Int) * b + c := fun a b c => by omega
  match m, hm with
  | 0, _ => simp [Instr.index, run_underlying Try.underlying186, asIntOf, go_sem, kid]
  | 1, _ => simp [Instr.index, run_underlying Try.underlying186, asIntOf, go_sem, kid]
  | 2, _ => simp [Instr.index, run_underlying Try.underlying186, asIntOf, go_sem, kid]
  | 3, _ => simp [Instr.index, run_underlying Try.underlying186, asIntOf, go_sem, kid]
  | 4, _ => simp [Instr.index, run_underlying Try.underlying186, asIntOf, go_sem, kid]
  | 5, _ => simp [Instr.index, run_underlying Try.underlying186, asIntOf, go_sem, kid]
end Go.Proofs.Ytiijlfpkninmgaa
