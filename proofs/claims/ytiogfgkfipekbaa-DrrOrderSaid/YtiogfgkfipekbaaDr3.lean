/-
  Package drr: whose turn it is, and that it comes to an end; the first one of the row is done. No condition but that New made the turns.
-/
import Derived.Test.YtiogfgkfipekbaaDr2
import Derived.Deep.LoopGhost
import Derived.Deep.CutBlock
import Derived.Deep.DeepCutAuto
import Derived.RegionTactic
namespace Go.Proofs.Ytiogfgkfipekbaa
set_option linter.unusedVariables false
set_option linter.unusedSimpArgs false
open Go.ChangeShapes Go.WideShapes Go.ChangeAt Go.RowKit
attribute [local go_sem] alloc_drewN setCell_drewN

/-- Turns in memory, seen from outside; their blocks. -/
def DrG (w : World) (base T : Nat) (S : Ts) (In : Nat → Prop) : Prop :=
  ∃ vc cs Rb vr rp rf rk, DrAt w base T vc cs Rb vr rp rf rk S.b ∧ cs.length = S.n ∧ (∀ i (h : i < cs.length), (cs[i]).qu = S.qu i ∧ (cs[i]).cr = S.cr i ∧ (cs[i]).q = S.q i) ∧ cont 0 rp rf rk = S.R ∧ TInv S ∧ ∀ j, In j ↔ inDr T vc cs Rb vr j
theorem DrG.below {w w' : World} {base T : Nat} {S : Ts} {In : Nat → Prop} (h : DrG w base T S In) (hb : Below w.heap.size w w') : DrG w' base T S In := by
  obtain ⟨vc, cs, Rb, vr, rp, rf, rk, h1, h2, h3, h4, h5, h6⟩ := h
  exact ⟨vc, cs, Rb, vr, rp, rf, rk, h1.below hb, h2, h3, h4, h5, h6⟩
theorem DrG.keep {w w' : World} {base T : Nat} {S : Ts} {In : Nat → Prop} (h : DrG w base T S In) (hk : ∀ j, In j → w'.heap[j]? = w.heap[j]?) : DrG w' base T S In := by
  obtain ⟨vc, cs, Rb, vr, rp, rf, rk, h1, h2, h3, h4, h5, h6⟩ := h
  exact ⟨vc, cs, Rb, vr, rp, rf, rk, h1.keep (fun j hj => hk j ((h6 j).2 hj)), h2, h3, h4, h5, h6⟩
theorem DrG.inlt {w : World} {base T : Nat} {S : Ts} {In : Nat → Prop} (h : DrG w base T S In) {j : Nat} (hj : In j) : base ≤ j ∧ j < w.heap.size := by
  obtain ⟨vc, cs, Rb, vr, rp, rf, rk, h1, -, -, -, -, h6⟩ := h
  exact h1.inlt ((h6 j).1 hj)
theorem DrG.inv {w : World} {base T : Nat} {S : Ts} {In : Nat → Prop} (h : DrG w base T S In) : TInv S := by
  obtain ⟨vc, cs, Rb, vr, rp, rf, rk, -, -, -, -, h5, -⟩ := h
  exact h5
theorem MvS.left {w w' : World} {X Y Z : Nat → Prop} (m : MvS w w' X Z) (h : ∀ j, Y j ↔ X j) : MvS w w' Y Z :=
  ⟨m.os, m.tape, m.output, m.size, fun j hj hY => m.block j hj (fun hx => hY ((h j).2 hx)), fun j hj => (m.own j hj).imp id (fun hx => (h j).2 hx)⟩
section
variable {w : World} {base T : Nat} {vc : Value} {cs : List Dc} {Rb : Nat} {vr : Value} {rp : List Int} {rf rk : Nat} {bg : Bool}
set_option maxHeartbeats 1000000 in
theorem dend (h : DrAt w base T vc cs Rb vr rp rf (rk + 1) bg) : Calls Try.prog 82 #[.pointer (some ⟨T, 0, none⟩)] w fun e w' => e = .returned (.tuple #[]) ∧ ∃ rp' rf', DrAt w' base T vc cs Rb vr rp' rf' rk false ∧ cont 0 rp' rf' rk = (cont 0 rp rf (rk + 1)).drop 1 ∧ MvS w w' (inDr T vc cs Rb vr) (inDr T vc cs Rb vr) := by
  have TK := Lib.hid (take_inI h.row)
  have HH := Lib.hid h
  obtain ⟨c0, c1, c2, f2⟩ := h.cell
  clear h
  go_enter Try.func82, Try.ntmps82
  go_wp2_with fail
  refine TK.out.mono ?_
  rintro e w1 ⟨rfl, rp', rf', r1, hc, m1⟩
  obtain ⟨h1, hm1⟩ := HH.out.setR m1 r1
  obtain ⟨h2, hm2⟩ := h1.setB false
  have FIN := Lib.hid (And.intro h2 (hm1.trans hm2))
  have HC := Lib.hid hc
  clear c0 c1 c2 f2 hm2 h2 hc r1 m1 hm1
  obtain ⟨c0, c1, c2, f2⟩ := h1.cell
  clear h1
  go_wp2
  first | go_end0 | refine bodyPost_ret (results_none rfl _ _ _) rfl ?_
  exact ⟨rfl, _, _, FIN.out.1, HC.out, FIN.out.2⟩
theorem dhas {S : Ts} {In : Nat → Prop} (h : DrG w base T S In) (c : Int) : Calls Try.prog 86 #[.pointer (some ⟨T, 0, none⟩), .int .i64 c] w fun e w' => e = .returned (.bool (decide (0 ≤ c ∧ c < S.n))) ∧ w' = w := by
  obtain ⟨vc, cs, Rb, vr, rp, rf, rk, h1, h2, -, -, -, -⟩ := h
  obtain ⟨g, cc, rfl, -, -, -⟩ := h1.form
  obtain ⟨c0, -, -, -⟩ := h1.cell
  rw [h2] at c0
  clear h1 h2
  by_cases hc : 0 ≤ c
  · by_cases hn : c < S.n
    · rw [decide_eq_true ⟨hc, hn⟩]
      go_enter Try.func86, Try.ntmps86
      go_wp2
      go_ret
      exact ⟨rfl, rfl⟩
    · rw [decide_eq_false (fun h => hn h.2)]
      go_enter Try.func86, Try.ntmps86
      go_wp2
      go_ret
      exact ⟨rfl, rfl⟩
  · rw [decide_eq_false (fun h => hc h.1)]
    go_enter Try.func86, Try.ntmps86
    go_wp2
    go_ret
    exact ⟨rfl, rfl⟩
end
end Go.Proofs.Ytiogfgkfipekbaa
