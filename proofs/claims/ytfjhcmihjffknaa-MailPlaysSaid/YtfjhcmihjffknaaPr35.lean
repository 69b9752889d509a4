/-
  Layer 35: a box and the document's answer side by side: each thing that is done, with both. No condition.
-/
import Derived.Test.YtfjhcmihjffknaaR35
namespace Go.Proofs.Ytfjhcmihjffknaa
set_option linter.unusedVariables false
set_option linter.unusedSimpArgs false
open Go.ChangeShapes Go.WideShapes Go.ChangeAt Go.RowKit

/-- Both, apart. -/
def Pair35 (base : Nat) (w0 w : World) (B M room : Nat) (sh : Bool) (l : List Int) : Prop :=
  ∃ In vl, BxGI w base B room sh l In ∧ R35 w base M room sh l vl ∧ (∀ j, inR35 M vl j → ¬ In j) ∧ Below base w0 w
/-- The acts' cells stand. -/
def Fr35 (v w : World) : Prop := ∀ (A : Nat) (cs : Array Value), v.heap[A]? = some (Obj.cells cs 34 (0, 0)) → w.heap[A]? = some (Obj.cells cs 34 (0, 0))
section
variable {base : Nat} {w0 w w' : World} {B M room : Nat} {sh : Bool} {l : List Int} {In In' : Nat → Prop} {vl vl' : Value}
theorem fr_bx (h : BxGI w base B room sh l In) (m : MvS w w' In In') : Fr35 w w' := by
  intro A cs hA
  refine (m.block A (Array.getElem?_eq_some_iff.1 hA).1 (fun hin => ?_)).trans hA
  obtain ⟨c, ps, h1, h2⟩ := h
  rcases (h2 A).1 hin with rfl | rfl | hp
  · rw [h1.blk] at hA
    simp only [Option.some.injEq, Obj.cells.injEq] at hA
    exact absurd hA.2.1 (by decide)
  · obtain ⟨s, r, hc⟩ := h1.ch
    rw [hc] at hA
    exact absurd hA (by simp)
  · obtain ⟨i, hi⟩ := List.getElem?_of_mem hp
    rw [(h1.el i A hi).2] at hA
    simp only [Option.some.injEq, Obj.cells.injEq] at hA
    exact absurd hA.2.1 (by decide)
theorem fr_r35 (h : R35 w base M room sh l vl) (m : MvS w w' (inR35 M vl) (inR35 M vl')) : Fr35 w w' := by
  intro A cs hA
  refine (m.block A (Array.getElem?_eq_some_iff.1 hA).1 (fun hin => ?_)).trans hA
  rcases hin with rfl | hin
  · rw [h.blk] at hA
    simp only [Option.some.injEq, Obj.cells.injEq] at hA
    exact absurd hA.2.1 (by decide)
  · exact own_ne_blk h.own hA (by decide) hin
theorem Fr35.below (hb : Below w.heap.size w w') : Fr35 w w' := fun A cs hA => (hb.block A (Array.getElem?_eq_some_iff.1 hA).1).trans hA
theorem Fr35.trans {a b c : World} (h : Fr35 a b) (k : Fr35 b c) : Fr35 a c := fun A cs hA => k A cs (h A cs hA)
theorem Pair35.on (h : Pair35 base w0 w B M room sh l) (hb : Below w.heap.size w w') : Pair35 base w0 w' B M room sh l := by
  obtain ⟨In, vl, h1, h2, h3, h4⟩ := h
  exact ⟨In, vl, h1.below hb, h2.below hb, h3, h1.bel (MvS.of_below In hb) h4⟩
theorem Pair35.low (h : Pair35 base w0 w B M room sh l) : base ≤ w.heap.size ∧ Below base w0 w := by
  obtain ⟨In, vl, h1, h2, h3, h4⟩ := h
  exact ⟨Nat.le_of_lt (Nat.lt_of_le_of_lt h1.lt.1 h1.lt.2), h4⟩
/-- The box turned, then the answer's: both again. -/
theorem pair_step {w1 v w2 : World} {sh2 : Bool} {l2 : List Int} (h1 : BxGI w base B room sh l In) (h2 : R35 w base M room sh l vl) (h3 : ∀ j, inR35 M vl j → ¬ In j) (h4 : Below base w0 w)
    (b : BxGI w1 base B room sh2 l2 In') (m : MvS w w1 In In') (hv : Below w1.heap.size w1 v) (r : R35 w2 base M room sh2 l2 vl') (mr : MvS v w2 (inR35 M vl) (inR35 M vl')) : Pair35 base w0 w2 B M room sh2 l2 := by
  have hlt := fun j (hj : In' j) => (b.inlt hj).2
  have hap : ∀ j, inR35 M vl j → ¬ In' j := fun j hj hi => by
    rcases m.own j hi with h | h
    · have := (h2.inlt hj).2; omega
    · exact h3 j hj h
  have b' := b.below hv
  have rv : R35 v base M room sh l vl := (h2.keep (w' := w1) (fun j hj => m.block j (h2.inlt hj).2 (h3 j hj))).below hv
  refine ⟨In', vl', b'.keep (fun j hj => mr.block j (b'.inlt hj).2 (fun hr => hap j hr hj)), r, fun j hj hi => ?_, ?_⟩
  · rcases mr.own j hj with h | h
    · have := (b'.inlt hi).2; omega
    · exact hap j h hi
  · exact mr.below (b.bel (MvS.of_below In' hv) (h1.bel m h4)) (fun j hj => (rv.inlt hj).1) (Nat.le_of_lt (Nat.lt_of_le_of_lt b'.lt.1 b'.lt.2))
theorem r_later {w1 v : World} (h2 : R35 w base M room sh l vl) (h3 : ∀ j, inR35 M vl j → ¬ In j) (m : MvS w w1 In In') (hv : Below w1.heap.size w1 v) : R35 v base M room sh l vl :=
  (h2.keep (w' := w1) (fun j hj => m.block j (h2.inlt hj).2 (h3 j hj))).below hv
theorem send_pair (h : Pair35 base w0 w B M room sh l) (x : Int) : Calls Try.prog 20 #[.pointer (some ⟨B, 0, none⟩), .int .i64 x] w fun e w' => ∃ a, e = .returned (.bool a) ∧ Fr35 w w' ∧ ∀ v, Below w'.heap.size w' v → Calls Try.prog 21 #[.pointer (some ⟨M, 0, none⟩), .int .i64 x] v fun e w'' => e = .returned (.bool a) ∧ (∃ l', Pair35 base w0 w'' B M room sh l') ∧ Fr35 v w'' := by
  obtain ⟨In, vl, h1, h2, h3, h4⟩ := h
  refine (gsendI h1 x).mono fun e w' ⟨e1, In', b, m⟩ => ⟨_, e1, fr_bx h1 m, fun v hv => ?_⟩
  have hr := r_later h2 h3 m hv
  refine (rsend35 hr x).mono fun e w'' ⟨e2, vl', r, mr⟩ => ⟨e2, ⟨_, pair_step h1 h2 h3 h4 b m hv r mr⟩, fr_r35 hr mr⟩
theorem take_pair (h : Pair35 base w0 w B M room sh l) : Calls Try.prog 14 #[.pointer (some ⟨B, 0, none⟩)] w fun e w' => ∃ a b, e = .returned (.tuple #[.int .i64 a, .bool b]) ∧ Fr35 w w' ∧ ∀ v, Below w'.heap.size w' v → Calls Try.prog 15 #[.pointer (some ⟨M, 0, none⟩)] v fun e w'' => e = .returned (.tuple #[.int .i64 a, .bool b]) ∧ (∃ l', Pair35 base w0 w'' B M room sh l') ∧ Fr35 v w'' := by
  obtain ⟨In, vl, h1, h2, h3, h4⟩ := h
  refine (gtakeI h1).mono fun e w' ⟨e1, In', b, m, _⟩ => ⟨_, _, e1, fr_bx h1 m, fun v hv => ?_⟩
  have hr := r_later h2 h3 m hv
  refine (rtake35 hr).mono fun e w'' ⟨e2, vl', r, mr⟩ => ⟨e2, ⟨_, pair_step h1 h2 h3 h4 b m hv r mr⟩, fr_r35 hr mr⟩
theorem some_pair (h : Pair35 base w0 w B M room sh l) (n : Int) : Calls Try.prog 17 #[.pointer (some ⟨B, 0, none⟩), .int .i64 n] w fun e w' => ∃ v1, e = .returned v1 ∧ Fr35 w w' ∧ ∀ v, Below w'.heap.size w' v → Calls Try.prog 18 #[.pointer (some ⟨M, 0, none⟩), .int .i64 n] v fun e w'' => ∃ v2, e = .returned v2 ∧ (∃ l', Pair35 base w0 w'' B M room sh l') ∧ Fr35 v w'' ∧
    ∀ u, Below w''.heap.size w'' u → Calls Try.prog 16 #[v1, v2] u fun e u' => e = .returned (.bool true) ∧ Below u.heap.size u u' := by
  obtain ⟨In, vl, h1, h2, h3, h4⟩ := h
  refine (gsome h1 n).mono fun e w' ⟨v1, e1, i1, In', b, m, _⟩ => ⟨_, e1, fr_bx h1 m, fun v hv => ?_⟩
  have hr := r_later h2 h3 m hv
  refine (rsome35 hr n).mono fun e w'' ⟨v2, e2, i2, vl', r, mr⟩ => ⟨_, e2, ⟨_, pair_step h1 h2 h3 h4 b m hv r mr⟩, fr_r35 hr mr, fun u hu => ?_⟩
  have i1' : Ints v w.heap.size v1 (l.take n.toNat) := i1.below hv
  have i1'' : Ints w'' w.heap.size v1 (l.take n.toNat) := i1'.mvs mr (fun j (hj : inR35 M vl j) => (h2.inlt hj).2)
  exact same6 _ _ v1 v2 (l.take n.toNat) (by have := h1.le; rw [List.length_take]; omega) u (i1''.below hu) (i2.below hu)
/-- The box is shut; the answer's mark is put behind that. -/
theorem shut_pair (h : Pair35 base w0 w B M room sh l) : Calls Try.prog 19 #[.pointer (some ⟨B, 0, none⟩)] w fun e w' => e = .returned (.bool (!sh)) ∧ Fr35 w w' ∧ ∀ v, Below w'.heap.size w' v → v.cell? ⟨M, 1, none⟩ = some (.bool sh) ∧ v.frozen? ⟨M, 1, none⟩ = false ∧ Pair35 base w0 (v.setCell ⟨M, 1, none⟩ (.bool true)) B M room true l ∧ Fr35 v (v.setCell ⟨M, 1, none⟩ (.bool true)) := by
  obtain ⟨In, vl, h1, h2, h3, h4⟩ := h
  refine (gshutI h1).mono fun e w' ⟨e1, b, m⟩ => ⟨e1, fr_bx h1 m, fun v hv => ?_⟩
  have hr := r_later h2 h3 m hv
  obtain ⟨r, mr⟩ := hr.shutM
  exact ⟨hr.cell.2.1, hr.cell.2.2.2, pair_step h1 h2 h3 h4 b m hv r mr, fr_r35 hr mr⟩
/-- What is looked at. -/
theorem look_pair (h : Pair35 base w0 w B M room sh l) : ∃ a n c, w.cell? ⟨M, 1, none⟩ = some (.bool sh) ∧ w.cell? ⟨M, 2, none⟩ = some (.slice a n c) ∧ n ≤ 4096 ∧ (∀ q, Calls Try.prog 22 #[.pointer (some ⟨B, 0, none⟩)] (w.drewN q) fun e w' => e = .returned (.int .i64 n) ∧ w' = w.drewN q) ∧
    (∀ q, Calls Try.prog 23 #[.pointer (some ⟨B, 0, none⟩)] (w.drewN q) fun e w' => e = .returned (.bool (!sh)) ∧ w' = w.drewN q) := by
  obtain ⟨In, vl, h1, h2, h3, h4⟩ := h
  obtain ⟨a, c, rfl, -, -⟩ := h2.own.form
  refine ⟨a, l.length, c, h2.cell.2.1, h2.cell.2.2.1, by have := h1.le; omega, fun q => ?_, fun q => ?_⟩
  · exact (glenI (h1.below (below_drewN q (Below.refl _ w)))).mono fun e w' ⟨a, b⟩ => ⟨a, b.symm⟩
  · exact (gopenI (h1.below (below_drewN q (Below.refl _ w)))).mono fun e w' ⟨a, b⟩ => ⟨a, b.symm⟩
end
end Go.Proofs.Ytfjhcmihjffknaa
