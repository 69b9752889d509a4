/-
  Package mail at elements of type int: a box, its memory and what it has as one; what each call answers and leaves. No condition but that New made the box.
-/
import Derived.Test.YtfjhcmihjffknaaMailI3
namespace Go.Proofs.Ytfjhcmihjffknaa
set_option linter.unusedVariables false
set_option linter.unusedSimpArgs false
open Go.RowKit

/-- A box in memory, and its blocks. -/
def BxGI (w : World) (ba B room : Nat) (sh : Bool) (l : List Int) (In : Nat → Prop) : Prop := ∃ c ps, BoxAtI w ba B c room sh l ps ∧ ∀ j, In j ↔ inBxI B c ps j
theorem MvS.bothI {w w' : World} {X Y Z V : Nat → Prop} (m : MvS w w' X Z) (h : ∀ j, Y j ↔ X j) (k : ∀ j, V j ↔ Z j) : MvS w w' Y V :=
  ⟨m.os, m.tape, m.output, m.size, fun j hj hY => m.block j hj (fun hx => hY ((h j).2 hx)), fun j hj => (m.own j ((k j).1 hj)).imp id (fun hx => (h j).2 hx)⟩
section
variable {w w' : World} {ba B room : Nat} {sh : Bool} {l : List Int} {In : Nat → Prop}
theorem BxGI.keep (h : BxGI w ba B room sh l In) (hk : ∀ j, In j → w'.heap[j]? = w.heap[j]?) : BxGI w' ba B room sh l In := by
  obtain ⟨c, ps, h1, h2⟩ := h
  exact ⟨c, ps, h1.keep (fun j hj => hk j ((h2 j).2 hj)), h2⟩
theorem BxGI.inlt (h : BxGI w ba B room sh l In) {j : Nat} (hj : In j) : ba ≤ j ∧ j < w.heap.size := by
  obtain ⟨c, ps, h1, h2⟩ := h
  exact h1.inlt ((h2 j).1 hj)
theorem BxGI.below (h : BxGI w ba B room sh l In) (hb : Below w.heap.size w w') : BxGI w' ba B room sh l In := h.keep (fun j hj => hb.block j (h.inlt hj).2)
theorem BxGI.lt (h : BxGI w ba B room sh l In) : ba ≤ B ∧ B < w.heap.size := by
  obtain ⟨c, ps, h1, h2⟩ := h
  exact h1.inlt (Or.inl rfl)
theorem BxGI.bel (h : BxGI w ba B room sh l In) {a : World} {S' : Nat → Prop} (m : MvS w w' In S') (hb : Below ba a w) : Below ba a w' :=
  m.below hb (fun j hj => (h.inlt hj).1) (Nat.le_of_lt (Nat.lt_of_le_of_lt h.lt.1 h.lt.2))
theorem BxGI.le (h : BxGI w ba B room sh l In) : l.length ≤ room ∧ 1 ≤ room ∧ room ≤ 4096 := by
  obtain ⟨c, ps, h1, h2⟩ := h
  exact ⟨h1.le, h1.r0, h1.r1⟩
theorem gsendI (h : BxGI w ba B room sh l In) (x : Int) : Calls Try.prog 20 #[.pointer (some ⟨B, 0, none⟩), Value.int .i64 x] w fun e w' => e = .returned (.bool (!sh && decide (l.length < room))) ∧ ∃ In', BxGI w' ba B room sh (if sh = false ∧ l.length < room then l ++ [x] else l) In' ∧ MvS w w' In In' := by
  have hl := h.lt
  obtain ⟨c, ps, h1, h2⟩ := h
  exact (msendI h1 (by omega) x).mono fun e w' ⟨a1, ps', a2, a3⟩ => ⟨a1, inBxI B c ps', ⟨c, ps', a2, fun _ => Iff.rfl⟩, a3.bothI h2 (fun _ => Iff.rfl)⟩
theorem gtakeI (h : BxGI w ba B room sh l In) : Calls Try.prog 14 #[.pointer (some ⟨B, 0, none⟩)] w fun e w' => e = .returned (.tuple #[Value.int .i64 (l.headD 0), .bool (decide (l ≠ []))]) ∧ ∃ In', BxGI w' ba B room sh l.tail In' ∧ MvS w w' In In' ∧ ∀ j, In' j → In j := by
  obtain ⟨c, ps, h1, h2⟩ := h
  exact (mtakeI h1).mono fun e w' ⟨a1, a2, a3⟩ => ⟨a1, inBxI B c ps.tail, ⟨c, ps.tail, a2, fun _ => Iff.rfl⟩, a3.bothI h2 (fun _ => Iff.rfl), fun j hj => (h2 j).2 (hj.imp id (fun h => h.imp id List.mem_of_mem_tail))⟩
theorem gshutI (h : BxGI w ba B room sh l In) : Calls Try.prog 19 #[.pointer (some ⟨B, 0, none⟩)] w fun e w' => e = .returned (.bool (!sh)) ∧ BxGI w' ba B room true l In ∧ MvS w w' In In := by
  obtain ⟨c, ps, h1, h2⟩ := h
  exact (mshutI h1).mono fun e w' ⟨a1, a2, a3⟩ => ⟨a1, ⟨c, ps, a2, h2⟩, a3.bothI h2 h2⟩
theorem gopenI (h : BxGI w ba B room sh l In) : Calls Try.prog 23 #[.pointer (some ⟨B, 0, none⟩)] w fun e w' => e = .returned (.bool (!sh)) ∧ w = w' := by
  obtain ⟨c, ps, h1, h2⟩ := h
  exact mopenI h1
theorem glenI (h : BxGI w ba B room sh l In) : Calls Try.prog 22 #[.pointer (some ⟨B, 0, none⟩)] w fun e w' => e = .returned (.int .i64 l.length) ∧ w = w' := by
  obtain ⟨c, ps, h1, h2⟩ := h
  exact mlenI h1
theorem gnewI (w : World) (room : Nat) (h0 : 1 ≤ room) (h1 : room ≤ 4096) : Calls Try.prog 11 #[.int .i64 room] w fun e w' => ∃ B, e = .returned (.tuple #[.pointer (some ⟨B, 0, none⟩), .int .i64 0]) ∧ (∃ In, BxGI w' w.heap.size B room false [] In) ∧ Below w.heap.size w w' :=
  (mnewI w room h0 h1).mono fun e w' ⟨B, a1, ⟨c, a2⟩, a3⟩ => ⟨B, a1, ⟨inBxI B c [], c, [], a2, fun _ => Iff.rfl⟩, a3⟩
end
end Go.Proofs.Ytfjhcmihjffknaa
