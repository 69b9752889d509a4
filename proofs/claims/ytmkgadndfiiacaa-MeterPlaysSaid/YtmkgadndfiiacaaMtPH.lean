/-
  The law on meters and the document's answer: true for any meters and packets. No condition.
-/
import Derived.Test.YtmkgadndfiiacaaMt2a
import Derived.Test.YtmkgadndfiiacaaMt2b
import Derived.Test.YtmkgadndfiiacaaMt2c
import Derived.Test.YtmkgadndfiiacaaMt2d
import Derived.Test.YtmkgadndfiiacaaMt8
import Derived.Test.YtmkgadndfiiacaaMt9
import Derived.Test.YtmkgadndfiiacaaOpen21
import Derived.Laws.StructEq
import Derived.Deep.DeepCutAuto
namespace Go.Proofs.Ytmkgadndfiiacaa
set_option linter.unusedVariables false
set_option linter.unusedSimpArgs false
open Go.ChangeShapes Go.WideShapes Go.ChangeAt Go.RowKit
attribute [local go_sem] alloc_drewN setCell_drewN

theorem mo_wd {m : MO} (hm : m.wd) {x : Int} (hx : 0 ≤ x) : (m.tick x).wd := by
  obtain ⟨⟨r0, r1⟩, ⟨n0, n1⟩, ⟨f0, f1⟩, ⟨a0, a1⟩, b0, b1⟩ := hm
  unfold MO.tick
  split
  · rename_i h
    obtain ⟨-, h1, h2⟩ := h
    have p := Int.mul_nonneg r0 hx
    generalize m.r * x = P at *
    exact ⟨⟨r0, r1⟩, ⟨n0, n1⟩, ⟨f0, f1⟩, ⟨by show (0 : Int) ≤ _ + min _ _; omega, by show _ + min _ _ ≤ (18446744073709551615 : Int); omega⟩, by show (0 : Int) ≤ _ + min _ _; omega, by show _ + min _ _ ≤ (18446744073709551615 : Int); omega⟩
  · exact ⟨by decide, by decide, by decide, by decide, by decide⟩
theorem mt_wd {m : MT} (hm : m.wd) {x : Int} (hx : 0 ≤ x) : (m.tick x).wd := by
  obtain ⟨⟨r0, r1⟩, ⟨q0, q1⟩, ⟨n0, n1⟩, ⟨f0, f1⟩, ⟨a0, a1⟩, b0, b1⟩ := hm
  unfold MT.tick
  split
  · have p := Int.mul_nonneg r0 hx
    have p2 := Int.mul_nonneg q0 hx
    generalize m.s * x = P at *
    generalize m.q * x = Q at *
    exact ⟨⟨r0, r1⟩, ⟨q0, q1⟩, ⟨n0, n1⟩, ⟨f0, f1⟩, ⟨by show (0 : Int) ≤ min _ _; omega, by show min _ _ ≤ (18446744073709551615 : Int); omega⟩, by show (0 : Int) ≤ min _ _; omega, by show min _ _ ≤ (18446744073709551615 : Int); omega⟩
  · exact ⟨by decide, by decide, by decide, by decide, by decide, by decide⟩
theorem mo_col_wd (x : MO) (hm : x.wd) (k : Int) (k0 : 0 ≤ k) (c : Int) : (x.col k c).1.wd := by
  obtain ⟨⟨r0, r1⟩, ⟨n0, n1⟩, ⟨f0, f1⟩, ⟨a0, a1⟩, b0, b1⟩ := hm
  unfold MO.col MO.wd
  split
  · split
    · refine ⟨⟨?_, ?_⟩, ⟨?_, ?_⟩, ⟨?_, ?_⟩, ⟨?_, ?_⟩, ?_, ?_⟩ <;> (try dsimp only) <;> omega
    · split
      · refine ⟨⟨?_, ?_⟩, ⟨?_, ?_⟩, ⟨?_, ?_⟩, ⟨?_, ?_⟩, ?_, ?_⟩ <;> (try dsimp only) <;> omega
      · split
        · refine ⟨⟨?_, ?_⟩, ⟨?_, ?_⟩, ⟨?_, ?_⟩, ⟨?_, ?_⟩, ?_, ?_⟩ <;> (try dsimp only) <;> omega
        · refine ⟨⟨?_, ?_⟩, ⟨?_, ?_⟩, ⟨?_, ?_⟩, ⟨?_, ?_⟩, ?_, ?_⟩ <;> (try dsimp only) <;> omega
  · refine ⟨⟨?_, ?_⟩, ⟨?_, ?_⟩, ⟨?_, ?_⟩, ⟨?_, ?_⟩, ?_, ?_⟩ <;> (try dsimp only) <;> omega
theorem mt_col_wd (x : MT) (hm : x.wd) (k : Int) (k0 : 0 ≤ k) (c : Int) : (x.col k c).1.wd := by
  obtain ⟨⟨s0, s1⟩, ⟨q0, q1⟩, ⟨n0, n1⟩, ⟨f0, f1⟩, ⟨a0, a1⟩, b0, b1⟩ := hm
  unfold MT.col MT.wd
  split
  · split
    · refine ⟨⟨?_, ?_⟩, ⟨?_, ?_⟩, ⟨?_, ?_⟩, ⟨?_, ?_⟩, ⟨?_, ?_⟩, ?_, ?_⟩ <;> (try dsimp only) <;> omega
    · split
      · refine ⟨⟨?_, ?_⟩, ⟨?_, ?_⟩, ⟨?_, ?_⟩, ⟨?_, ?_⟩, ⟨?_, ?_⟩, ?_, ?_⟩ <;> (try dsimp only) <;> omega
      · refine ⟨⟨?_, ?_⟩, ⟨?_, ?_⟩, ⟨?_, ?_⟩, ⟨?_, ?_⟩, ⟨?_, ?_⟩, ?_, ?_⟩ <;> (try dsimp only) <;> omega
  · refine ⟨⟨?_, ?_⟩, ⟨?_, ?_⟩, ⟨?_, ?_⟩, ⟨?_, ?_⟩, ⟨?_, ?_⟩, ?_, ?_⟩ <;> (try dsimp only) <;> omega
theorem list_un {P : Program} {ops : Array Oper} {Q : Exit → Act → World → Prop} {a : Act} {w : World} {rest : List Oper} {o : Oper} (h : Region.wanted o (yielded ops a.tmps) = false) (k : wpList P ops Q rest (a.put o.dst undef) w) : wpList P ops Q (o :: rest) a w := by
  unfold wpList
  rw [if_neg (by rw [h]; decide)]
  exact k
theorem list_un2 {P : Program} {ops : Array Oper} {Q : Exit → Act → World → Prop} {a : Act} {w : World} {rest : List Oper} {o : Oper} {U : Value} (hU : U = undef) (h : Region.wanted o (yielded ops a.tmps) = false) (k : wpList P ops Q rest (a.put o.dst U) w) : wpList P ops Q (o :: rest) a w :=
  list_un h (hU ▸ k)
theorem list_val {P : Program} {ops : Array Oper} {Q : Exit → Act → World → Prop} {a : Act} {w : World} {rest : List Oper} {o : Oper} {v : Value} (h : Region.wanted o (yielded ops a.tmps) = true) (hv : (execOp a.eval o).run P w = .ok (.value v) w) (k : wpList P ops Q rest (a.put o.dst v) w) : wpList P ops Q (o :: rest) a w := by
  unfold wpList
  rw [if_pos h]
  exact Or.inl (by simp only [Oper.wp, hv, Oper.upon]; exact k)
theorem mor_new (r n f : Int) : mor r n f n f = moe r n f := by
  unfold mor
  by_cases h : r = 0
  · rw [if_pos h]; unfold moe; rw [if_pos h]
  · rw [if_neg h]
    by_cases k : moe r n f = 0
    · rw [if_pos ⟨k, Int.le_refl _, Int.le_refl _⟩, k]
    · rw [if_neg (fun x => k x.1)]
      unfold moe at k ⊢
      rw [if_neg h] at k ⊢
      split at k
      · rw [if_pos (by assumption)]
      · exact absurd rfl k
theorem mtr_new (s q m g : Int) : mtr s q m g m g = mte s q m g := by
  unfold mtr
  by_cases h : s = 0
  · rw [if_pos h]; unfold mte; rw [if_pos h]
  · rw [if_neg h]
    by_cases h2 : q < s
    · rw [if_pos h2]; unfold mte; rw [if_neg h, if_pos h2]
    · rw [if_neg h2]
      by_cases k : mte s q m g = 0
      · rw [if_pos ⟨k, Int.le_refl _, Int.le_refl _⟩, k]
      · rw [if_neg (fun x => k x.1)]
        unfold mte at k ⊢
        rw [if_neg h, if_neg h2] at k ⊢
        by_cases h3 : m = 0
        · rw [if_pos h3]
        · rw [if_neg h3] at k ⊢
          by_cases h4 : g = 0
          · rw [if_pos h4]
          · rw [if_neg h4] at k; exact absurd rfl k
end Go.Proofs.Ytmkgadndfiiacaa
