/-
  pacemakerlaw17.AdmitPlays returns true for every input, and each argument reads as it did. No condition.
-/
import Derived.Test.YtiogfgkfipekbaaAdPo
import Derived.Test.YtiogfgkfipekbaaOpen2
import Derived.Test.YtiogfgkfipekbaaOpen17
import Derived.ChangeMaps5
namespace Go.Proofs.Ytiogfgkfipekbaa.admitPlays
set_option linter.unusedVariables false
set_option linter.unusedSimpArgs false
open Go.ChangeShapes Go.WideShapes Go.ChangeAt Go.RowKit

theorem own : ownKnob Try.prog.godebug = none := by kernel_rfl
theorem laidOut : laidOutB Try.prog = true := by kernel_rfl

set_option maxRecDepth 100000 in
theorem lifted (os : Os) (started : os.Started) (H : Type) (enc : TypeId × Value → H) :
    ReturnsInHanded {} Try.checked os 3 .any (Rows.admitPlaysSpec.pre6 enc Try.prog Try.f3 Rows.admitPlaysRow.domain false) (Rows.admitPlaysSpec.post enc Try.prog Try.f3 false true false false) := by
  refine returnsInHanded_of_change (C := Try.checked) own started (by kernel_rfl) Try.func3
    (ChangeSpec.witness6 (enc := enc) (C := Try.checked) false ⟨#[], #[.agg #[.int .i64 0, .int .i64 0, .int .i64 0, .int .i64 0, .int .i64 0, .int .u64 0, .int .i64 0, .int .u64 0, .int .u64 0, .int .u64 0, .slice none 0 0], .slice none 0 0], []⟩ 8 (by kernel_rfl) (by kernel_rfl) (by kernel_rfl) (by kernel_rfl)) ?_
  intro W base args ds gs before hval0 hW hcnd _
  have hval : ∀ (j : Nat) t v, Try.f3.params[j]? = some t → args[j]? = some v → Value.okWide Try.prog W .any base t v := hval0
  have hW' := hW
  obtain ⟨p, q, hA0, hV, rfl, hfz, hnd⟩ := hW
  have hA : DataW.TrodAll enc Try.prog W 0 (fun _ => true) true Try.f3.params.toList args.toList ds p := hA0
  rw [Try.params3] at hA hval
  obtain ⟨v0, vs0, d0, ds0, p0, q0, hargs, rfl, rfl, h0, r0⟩ := trodAll_cons hA
  obtain ⟨v1, vs1, d1, ds1, p1, q1, rfl, rfl, rfl, h1, r1⟩ := trodAll_cons r0
  obtain ⟨rfl, rfl, rfl⟩ := trodAll_nil r1
  obtain rfl : args = #[v0, v1] := by cases args; simp_all
  obtain ⟨rfl, rfl⟩ := trodVars_none hV
  have k0 := h0
  have lt0 : ∀ x ∈ p0, x.block < W.heap.size := by obtain ⟨m, hm⟩ := k0; exact DataW.trod_lt m _ _ _ hm
  obtain ⟨a00_, a01_, a02_, a03_, a04_, a05_, a06_, a07_, a08_, a09_, a0, n0, c0, z0, rfl, w0, hc0, w00_, w01_, w02_, w03_, w04_, w05_, w06_, w07_, w08_, w09_⟩ := open_config Try.underlying25 (by kernel_rfl) rfl rfl rfl rfl rfl rfl rfl rfl rfl rfl rfl (by kernel_rfl) (by kernel_rfl) (by kernel_rfl) (by kernel_rfl) (by kernel_rfl) (by kernel_rfl) (by kernel_rfl) (by kernel_rfl) (by kernel_rfl) (by kernel_rfl) (by kernel_rfl) Try.underlying3 Try.underlying3 Try.underlying3 Try.underlying3 Try.underlying3 Try.underlying22 Try.underlying3 Try.underlying22 Try.underlying22 Try.underlying22 Try.underlying23 Try.underlying100 (by kernel_rfl) rfl rfl rfl rfl rfl (by kernel_rfl) (by kernel_rfl) (by kernel_rfl) (by kernel_rfl) (by kernel_rfl) Try.underlying36 Try.underlying22 Try.underlying22 Try.underlying22 Try.underlying22 (hval 0 25 v0 rfl rfl) h0
  obtain ⟨lo00_, hi00_⟩ := bounds_i64 w00_
  obtain ⟨lo01_, hi01_⟩ := bounds_i64 w01_
  obtain ⟨lo02_, hi02_⟩ := bounds_i64 w02_
  obtain ⟨lo03_, hi03_⟩ := bounds_i64 w03_
  obtain ⟨lo04_, hi04_⟩ := bounds_i64 w04_
  obtain ⟨lo05_, hi05_⟩ := bounds_u64 w05_
  obtain ⟨lo06_, hi06_⟩ := bounds_i64 w06_
  obtain ⟨lo07_, hi07_⟩ := bounds_u64 w07_
  obtain ⟨lo08_, hi08_⟩ := bounds_u64 w08_
  obtain ⟨lo09_, hi09_⟩ := bounds_u64 w09_
  have k1 := h1
  have lt1 : ∀ x ∈ p1, x.block < W.heap.size := by obtain ⟨m, hm⟩ := k1; exact DataW.trod_lt m _ _ _ hm
  obtain ⟨a1, n1, c1, z1, rfl, w1, hc1⟩ := open_acts17 Try.underlying26 Try.underlying38 (by kernel_rfl) rfl rfl rfl (by kernel_rfl) (by kernel_rfl) (by kernel_rfl) Try.underlying5 Try.underlying36 Try.underlying22 (hval 1 26 v1 rfl rfl) h1
  clear hA0 hval0
  refine (walk_admitPlays a00_ lo00_ hi00_ a01_ lo01_ hi01_ a02_ lo02_ hi02_ a03_ lo03_ hi03_ a04_ lo04_ hi04_ a05_ lo05_ hi05_ a06_ lo06_ hi06_ a07_ lo07_ hi07_ a08_ lo08_ hi08_ a09_ lo09_ hi09_ a0 n0 c0 z0 w0 hc0 a1 n1 c1 z1 w1 hc1).mono fun e W' ⟨he, bel⟩ => ?_
  subst he
  exact ⟨_, rfl, _, _, _, [], _, [], hW', trodAll_mk1 (shut_bool Try.underlying4 _), (trodAll_cons_mk (Below.trod laidOut (by kernel_rfl) (of_decide_eq_true (by kernel_rfl)) k0 bel lt0) (trodAll_cons_mk (Below.trod laidOut (by kernel_rfl) (of_decide_eq_true (by kernel_rfl)) k1 bel lt1) trodAll_mk0)), rfl, bel.frame _, fun h => by cases h⟩

theorem proved : Rows.AdmitPlaysSaid :=
  OpenClaim.holds_of_wide 3 Try.f3 rfl rfl rfl rfl rfl rfl rfl ⟨rfl, rfl, rfl, rfl, rfl⟩ rfl rfl rfl rfl rfl (by kernel_rfl) Try.func3 (by kernel_rfl)
    (of_decide_eq_true (by kernel_rfl)) (by unfold Func.isWrapper; first | (rw [if_pos (by decide +kernel)]; kernel_rfl) | (rw [if_neg (by decide +kernel)]; exact ⟨rfl, rfl⟩))
    (fun os started H enc _ => lifted os started H enc)
end Go.Proofs.Ytiogfgkfipekbaa.admitPlays
