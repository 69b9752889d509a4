/-
  The law's own 'same' of layer 9: two rows of items are alike. What lay below the heap's end stands. No condition.
-/
import Derived.Test.YtkgiaijcgblpbaaRef9
namespace Go.Proofs.Ytkgiaijcgblpbaa
set_option linter.unusedVariables false
set_option linter.unusedSimpArgs false
open Go.ChangeShapes Go.WideShapes Go.ChangeAt Go.RowKit
attribute [local go_sem] alloc_drewN setCell_drewN

/-- A slice of the program's items that the call owns. -/
def Hts (w : World) (base : Nat) (v : Value) (xs : List (Int × Int)) : Prop := w.ownsRow base 94 2 v xs.length (xs.flatMap itc)
theorem Hts.form {w : World} {base : Nat} {v : Value} {xs : List (Int × Int)} (h : Hts w base v xs) : ∃ a c, v = .slice a xs.length c ∧ xs.length ≤ c ∧ ∀ i (hi : i < xs.length), ∃ g, a = some ⟨g, 0, none⟩ ∧ g < w.heap.size ∧ w.cell? ⟨g, i * 2, none⟩ = some (.int .u64 (xs[i]).1) ∧ w.cell? ⟨g, i * 2 + 1, none⟩ = some (.int .i64 (xs[i]).2) := by
  have h' := h
  unfold Hts at h'
  rcases h'.2 with ⟨rfl, h0⟩ | ⟨g, cap, cur, rfl, hb, hg, h1, _⟩
  · exact ⟨none, 0, by rw [h0], by omega, fun i hi => by omega⟩
  · refine ⟨some ⟨g, 0, none⟩, cap, rfl, h1, fun i hi => ⟨g, rfl, (Array.getElem?_eq_some_iff.1 hg).1, ?_, ?_⟩⟩
    · exact (h'.cellAt (i * 2 + 0) (by omega)).trans (its_at xs i 0 hi (by omega))
    · exact (h'.cellAt (i * 2 + 1) (by omega)).trans (its_at xs i 1 hi (by omega))
theorem Hts.below {w w' : World} {base : Nat} {v : Value} {xs : List (Int × Int)} (h : Hts w base v xs) (hb : Below w.heap.size w w') : Hts w' base v xs :=
  World.ownsRow.kept (row := some w.heap.size) h ⟨hb.os, hb.tape, hb.output, hb.size, fun k hk _ => hb.block k hk⟩ (Or.inr (fun hh => by have := World.ownsRow.lt h _ hh; omega))
set_option maxRecDepth 100000 in
set_option maxHeartbeats 1000000 in
theorem same_its9 (base base2 : Nat) (v v2 : Value) (xs : List (Int × Int)) (hn : xs.length ≤ 1000000) (w : World) (h : Hts w base v xs) (h2 : Its w base2 v2 xs) :
    Calls Try.prog 37 #[v, v2] w fun e w' => e = .returned (.bool true) ∧ Below w.heap.size w w' := by
  obtain ⟨a, c, rfl, _, hc⟩ := h.form
  obtain ⟨a2, c2, rfl, _, hc2⟩ := h2.form
  have HC := Lib.hid hc; have HC2 := Lib.hid hc2
  clear h h2 hc hc2
  go_enter Try.func37, Try.ntmps37
  go_wp2
  go_loopw [13] (fun x wr => ∃ k : Nat, k ≤ xs.length ∧ x = .int .i64 k ∧ Below w.heap.size w wr) (fun x _ => xs.length - (intOf x).toNat)
  case atStart => exact ⟨0, Nat.zero_le _, rfl, Below.refl _ _⟩
  case round =>
    obtain ⟨k, hk, rfl, hb⟩ := hrel
    by_cases hlt : k < xs.length
    · obtain ⟨g, rfl, hg, c0, c1⟩ := HC.out k hlt
      obtain ⟨g2, rfl, hg2, d0, d1⟩ := HC2.out k hlt
      have c0 := (hb.cell (p := ⟨g, k * 2, none⟩) hg).trans c0
      have c1 := (hb.cell (p := ⟨g, k * 2 + 1, none⟩) hg).trans c1
      have d0 := (hb.cell (p := ⟨g2, k * 2, none⟩) hg2).trans d0
      have d1 := (hb.cell (p := ⟨g2, k * 2 + 1, none⟩) hg2).trans d1
      have k0 : (0 : Int) ≤ k := by omega
      have k1 : (k : Int) < xs.length := by omega
      have HB := Lib.hid hb
      clear hb
      generalize xs[k] = x at *
      obtain ⟨x1, x2⟩ := x
      dsimp only at c0 c1 d0 d1
      go_wp2
      go_quiet (fail)
      go_wp2
      go_roundw
      case rel => exact ⟨k + 1, by omega, by go_num, below_drewN _ HB.out⟩
      case measure => simp [intOf] <;> omega
    · obtain rfl : k = xs.length := by omega
      go_wp2
      go_ret
      exact ⟨rfl, hb⟩
end Go.Proofs.Ytkgiaijcgblpbaa
