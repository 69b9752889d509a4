/-
  Package mail at elements of type string: a box, its memory and what it has as one; what each call answers and leaves. No condition but that New made the box.
-/
import Derived.Test.YtfjhcmihjffknaaMailT3
namespace Go.Proofs.Ytfjhcmihjffknaa
set_option linter.unusedVariables false
set_option linter.unusedSimpArgs false
open Go.RowKit

/-- A box in memory, and its blocks. -/
def BxGT (w : World) (ba B room : Nat) (sh : Bool) (l : List ByteArray) (In : Nat → Prop) : Prop := ∃ c ps, BoxAtT w ba B c room sh l ps ∧ ∀ j, In j ↔ inBxT B c ps j
theorem MvS.bothT {w w' : World} {X Y Z V : Nat → Prop} (m : MvS w w' X Z) (h : ∀ j, Y j ↔ X j) (k : ∀ j, V j ↔ Z j) : MvS w w' Y V :=
  ⟨m.os, m.tape, m.output, m.size, fun j hj hY => m.block j hj (fun hx => hY ((h j).2 hx)), fun j hj => (m.own j ((k j).1 hj)).imp id (fun hx => (h j).2 hx)⟩
section
variable {w w' : World} {ba B room : Nat} {sh : Bool} {l : List ByteArray} {In : Nat → Prop}
theorem BxGT.keep (h : BxGT w ba B room sh l In) (hk : ∀ j, In j → w'.heap[j]? = w.heap[j]?) : BxGT w' ba B room sh l In := by
  obtain ⟨c, ps, h1, h2⟩ := h
  exact ⟨c, ps, h1.keep (fun j hj => hk j ((h2 j).2 hj)), h2⟩
theorem BxGT.inlt (h : BxGT w ba B room sh l In) {j : Nat} (hj : In j) : ba ≤ j ∧ j < w.heap.size := by
  obtain ⟨c, ps, h1, h2⟩ := h
  exact h1.inlt ((h2 j).1 hj)
theorem BxGT.below (h : BxGT w ba B room sh l In) (hb : Below w.heap.size w w') : BxGT w' ba B room sh l In := h.keep (fun j hj => hb.block j (h.inlt hj).2)
theorem BxGT.lt (h : BxGT w ba B room sh l In) : ba ≤ B ∧ B < w.heap.size := by
  obtain ⟨c, ps, h1, h2⟩ := h
  exact h1.inlt (Or.inl rfl)
theorem BxGT.bel (h : BxGT w ba B room sh l In) {a : World} {S' : Nat → Prop} (m : MvS w w' In S') (hb : Below ba a w) : Below ba a w' :=
  m.below hb (fun j hj => (h.inlt hj).1) (Nat.le_of_lt (Nat.lt_of_le_of_lt h.lt.1 h.lt.2))
theorem BxGT.le (h : BxGT w ba B room sh l In) : l.length ≤ room ∧ 1 ≤ room ∧ room ≤ 4096 := by
  obtain ⟨c, ps, h1, h2⟩ := h
  exact ⟨h1.le, h1.r0, h1.r1⟩
theorem gsendT (h : BxGT w ba B room sh l In) (x : ByteArray) : Calls Try.prog 46 #[.pointer (some ⟨B, 0, none⟩), Value.string x] w fun e w' => e = .returned (.bool (!sh && decide (l.length < room))) ∧ ∃ In', BxGT w' ba B room sh (if sh = false ∧ l.length < room then l ++ [x] else l) In' ∧ MvS w w' In In' := by
  have hl := h.lt
  obtain ⟨c, ps, h1, h2⟩ := h
  exact (msendT h1 (by omega) x).mono fun e w' ⟨a1, ps', a2, a3⟩ => ⟨a1, inBxT B c ps', ⟨c, ps', a2, fun _ => Iff.rfl⟩, a3.bothT h2 (fun _ => Iff.rfl)⟩
theorem gtakeT (h : BxGT w ba B room sh l In) : Calls Try.prog 48 #[.pointer (some ⟨B, 0, none⟩)] w fun e w' => e = .returned (.tuple #[Value.string (l.headD ⟨#[]⟩), .bool (decide (l ≠ []))]) ∧ ∃ In', BxGT w' ba B room sh l.tail In' ∧ MvS w w' In In' ∧ ∀ j, In' j → In j := by
  obtain ⟨c, ps, h1, h2⟩ := h
  exact (mtakeT h1).mono fun e w' ⟨a1, a2, a3⟩ => ⟨a1, inBxT B c ps.tail, ⟨c, ps.tail, a2, fun _ => Iff.rfl⟩, a3.bothT h2 (fun _ => Iff.rfl), fun j hj => (h2 j).2 (hj.imp id (fun h => h.imp id List.mem_of_mem_tail))⟩
theorem gshutT (h : BxGT w ba B room sh l In) : Calls Try.prog 47 #[.pointer (some ⟨B, 0, none⟩)] w fun e w' => e = .returned (.bool (!sh)) ∧ BxGT w' ba B room true l In ∧ MvS w w' In In := by
  obtain ⟨c, ps, h1, h2⟩ := h
  exact (mshutT h1).mono fun e w' ⟨a1, a2, a3⟩ => ⟨a1, ⟨c, ps, a2, h2⟩, a3.bothT h2 h2⟩
theorem gopenT (h : BxGT w ba B room sh l In) : Calls Try.prog 49 #[.pointer (some ⟨B, 0, none⟩)] w fun e w' => e = .returned (.bool (!sh)) ∧ w = w' := by
  obtain ⟨c, ps, h1, h2⟩ := h
  exact mopenT h1
theorem gnewT (w : World) (room : Nat) (h0 : 1 ≤ room) (h1 : room ≤ 4096) : Calls Try.prog 45 #[.int .i64 room] w fun e w' => ∃ B, e = .returned (.tuple #[.pointer (some ⟨B, 0, none⟩), .int .i64 0]) ∧ (∃ In, BxGT w' w.heap.size B room false [] In) ∧ Below w.heap.size w w' :=
  (mnewT w room h0 h1).mono fun e w' ⟨B, a1, ⟨c, a2⟩, a3⟩ => ⟨B, a1, ⟨inBxT B c [], c, [], a2, fun _ => Iff.rfl⟩, a3⟩
end
end Go.Proofs.Ytfjhcmihjffknaa
