/-
  Layer 7, the document's answer: what each thing that is done leaves in memory; Take. No condition.
-/
import Derived.Test.YtmkgadndfiiacaaR7
import Derived.Test.YtmkgadndfiiacaaRows2
import Derived.Maps.AppendAt
import Derived.Deep.AppendLies
namespace Go.Proofs.Ytmkgadndfiiacaa
set_option linter.unusedVariables false
set_option linter.unusedSimpArgs false
open Go.ChangeShapes Go.WideShapes Go.ChangeAt Go.RowKit
attribute [local go_sem] alloc_drewN setCell_drewN

theorem infoIt : (Try.prog.info? 114).map (fun i => (i.zero, i.size, i.bytes)) = some (some (.agg #[.int .i64 0, .int .i64 0]), 2, 16) := by kernel_rfl
theorem infoPl : (Try.prog.info? 206).map (fun i => (i.zero, i.size, i.bytes)) = some (some (.agg #[.int .i64 0, .int .i64 0]), 2, 16) := by kernel_rfl
section
variable {w w1 w4 : World} {base M : Nat} {most queues : Int} {vi vn vb : Value} {its ins : List (Int × Int)} {back : List Int} {nev : Int}
theorem R7.ne (h : R7 base w M most queues vi vn vb its ins back nev) : vi.ownBlock ≠ some M ∧ vn.ownBlock ≠ some M ∧ vb.ownBlock ≠ some M := ⟨own_ne_blk h.it h.blk (by decide), own_ne_blk h.pl h.blk (by decide), own_ne_blk h.bk h.blk (by decide)⟩
theorem mv_store {S S' : Nat → Prop} (m : MvS w w1 S S') {g i : Nat} {u : Value} (hg : S' g) : MvS w (w1.setCell ⟨g, i, none⟩ u) S S' := by
  refine ⟨m.os, m.tape, m.output, by simpa [World.setCell] using m.size, fun j hj hS => ?_, m.own⟩
  have hne : j ≠ g := fun e => by
    rw [e] at hj hS
    rcases m.own g hg with h1 | h1
    · omega
    · exact hS h1
  exact (Below.heap_setCell _ _ _ _ hne).trans (m.block j hj hS)
theorem mv_grown {S : Nat → Prop} {row : Option Nat} (hb : Below w.heap.size w w1) (hg : w1.grownBy w4 row) (hrow : ∀ j, row = some j → w.heap.size ≤ j ∨ S j) : MvS w w4 S S := by
  refine ⟨hg.os.trans hb.os, hg.tape.trans hb.tape, hg.output.trans hb.output, Nat.le_trans hb.size hg.size, fun j hj hS => ?_, fun _ h => Or.inr h⟩
  have := hb.size
  refine (hg.block j (by omega) (fun e => ?_)).trans (hb.block j hj)
  rcases hrow j e.symm with h1 | h1
  · omega
  · exact hS h1
theorem own_far {e e' : TypeId} {size size' n n' b' : Nat} {v v' : Value} {xs xs' : List Value} {row : Option Nat} (h : w1.ownsRow base e size v n xs) (hg : w1.grownBy w4 row) (h' : w1.ownsRow b' e' size' v' n' xs') (hr : row = v'.ownBlock) (hne : e' ≠ e) : w4.ownsRow base e size v n xs :=
  World.ownsRow.kept h hg (by
    cases hv : v.ownBlock with
    | none => exact Or.inl rfl
    | some g =>
      refine Or.inr (fun e9 => ?_)
      rcases row_apart h h' (fun x => hne x.symm) with h3 | h3
      · rw [hv] at h3; cases h3
      · exact h3 (by rw [hv, e9, hr]))
/-- A thing is put behind the others. -/
theorem R7.addIt (h : R7 base w M most queues vi vn vb its ins back nev) (hb1 : Below w.heap.size w w1) {vi' : Value} {a x : Int} (hg : w1.grownBy w4 vi.ownBlock) (ho : w4.ownsRow base 114 2 vi' (its.length + 1) (its.flatMap pr7 ++ [.int .i64 a, .int .i64 x])) (hat : vi'.ownBlock = vi.ownBlock ∨ vi'.ownBlock = some w1.heap.size) :
    R7 base (w4.setCell ⟨M, 2, none⟩ vi') M most queues vi' vn vb (its ++ [(a, x)]) ins back nev ∧ MvS w (w4.setCell ⟨M, 2, none⟩ vi') (inR M vi vn vb) (inR M vi' vn vb) := by
  have h1 := h.below hb1
  have hM := blk_grown hg h1.ne.1 h1.blk
  have o2 := own_far h1.pl hg h1.it rfl (by decide)
  have o3 := own_far h1.bk hg h1.it rfl (by decide)
  have hs := hb1.size
  refine ⟨⟨h.low, put6_2 hM, ownsRow_setCell_other (a := ⟨M, 2, none⟩) (by rw [List.length_append, List.flatMap_append]; exact ho) (own_ne_blk ho hM (by decide)) _, ownsRow_setCell_other (a := ⟨M, 2, none⟩) o2 (own_ne_blk o2 hM (by decide)) _, ownsRow_setCell_other (a := ⟨M, 2, none⟩) o3 (own_ne_blk o3 hM (by decide)) _⟩, ?_⟩
  have m := mv_grown (S := inR M vi vn vb) hb1 hg (fun j hj => Or.inr (Or.inr (Or.inl hj)))
  refine mv_store (S' := inR M vi' vn vb) ⟨m.os, m.tape, m.output, m.size, m.block, fun j hj => ?_⟩ (Or.inl rfl)
  rcases hj with hj | hj | hj | hj
  · exact Or.inr (Or.inl hj)
  · rcases hat with e | e
    · exact Or.inr (Or.inr (Or.inl (e ▸ hj)))
    · rw [e] at hj; injection hj with hj; exact Or.inl (by omega)
  · exact Or.inr (Or.inr (Or.inr (Or.inl hj)))
  · exact Or.inr (Or.inr (Or.inr (Or.inr hj)))
/-- A place is put behind the others. -/
theorem R7.addPl (h : R7 base w M most queues vi vn vb its ins back nev) (hb1 : Below w.heap.size w w1) {vn' : Value} {a x : Int} (hg : w1.grownBy w4 vn.ownBlock) (ho : w4.ownsRow base 206 2 vn' (ins.length + 1) (ins.flatMap pr7 ++ [.int .i64 a, .int .i64 x])) (hat : vn'.ownBlock = vn.ownBlock ∨ vn'.ownBlock = some w1.heap.size) :
    R7 base (w4.setCell ⟨M, 3, none⟩ vn') M most queues vi vn' vb its (ins ++ [(a, x)]) back nev ∧ MvS w (w4.setCell ⟨M, 3, none⟩ vn') (inR M vi vn vb) (inR M vi vn' vb) := by
  have h1 := h.below hb1
  have hM := blk_grown hg h1.ne.2.1 h1.blk
  have o2 := own_far h1.it hg h1.pl rfl (by decide)
  have o3 := own_far h1.bk hg h1.pl rfl (by decide)
  have hs := hb1.size
  refine ⟨⟨h.low, put6_3 hM, ownsRow_setCell_other (a := ⟨M, 3, none⟩) o2 (own_ne_blk o2 hM (by decide)) _, ownsRow_setCell_other (a := ⟨M, 3, none⟩) (by rw [List.length_append, List.flatMap_append]; exact ho) (own_ne_blk ho hM (by decide)) _, ownsRow_setCell_other (a := ⟨M, 3, none⟩) o3 (own_ne_blk o3 hM (by decide)) _⟩, ?_⟩
  have m := mv_grown (S := inR M vi vn vb) hb1 hg (fun j hj => Or.inr (Or.inr (Or.inr (Or.inl hj))))
  refine mv_store (S' := inR M vi vn' vb) ⟨m.os, m.tape, m.output, m.size, m.block, fun j hj => ?_⟩ (Or.inl rfl)
  rcases hj with hj | hj | hj | hj
  · exact Or.inr (Or.inl hj)
  · exact Or.inr (Or.inr (Or.inl hj))
  · rcases hat with e | e
    · exact Or.inr (Or.inr (Or.inr (Or.inl (e ▸ hj))))
    · rw [e] at hj; injection hj with hj; exact Or.inl (by omega)
  · exact Or.inr (Or.inr (Or.inr (Or.inr hj)))
/-- A handle comes back. -/
theorem R7.addBk (h : R7 base w M most queues vi vn vb its ins back nev) (hb1 : Below w.heap.size w w1) {vb' : Value} {x : Int} (hg : w1.grownBy w4 vb.ownBlock) (ho : w4.ownsRow base 3 1 vb' (back.length + 1) (back.map (Value.int .i64) ++ [.int .i64 x])) (hat : vb'.ownBlock = vb.ownBlock ∨ vb'.ownBlock = some w1.heap.size) :
    R7 base (w4.setCell ⟨M, 4, none⟩ vb') M most queues vi vn vb' its ins (back ++ [x]) nev ∧ MvS w (w4.setCell ⟨M, 4, none⟩ vb') (inR M vi vn vb) (inR M vi vn vb') := by
  have h1 := h.below hb1
  have hM := blk_grown hg h1.ne.2.2 h1.blk
  have o2 := own_far h1.it hg h1.bk rfl (by decide)
  have o3 := own_far h1.pl hg h1.bk rfl (by decide)
  have hs := hb1.size
  refine ⟨⟨h.low, put6_4 hM, ownsRow_setCell_other (a := ⟨M, 4, none⟩) o2 (own_ne_blk o2 hM (by decide)) _, ownsRow_setCell_other (a := ⟨M, 4, none⟩) o3 (own_ne_blk o3 hM (by decide)) _, ownsRow_setCell_other (a := ⟨M, 4, none⟩) (by rw [List.length_append, List.map_append]; exact ho) (own_ne_blk ho hM (by decide)) _⟩, ?_⟩
  have m := mv_grown (S := inR M vi vn vb) hb1 hg (fun j hj => Or.inr (Or.inr (Or.inr (Or.inr hj))))
  refine mv_store (S' := inR M vi vn vb') ⟨m.os, m.tape, m.output, m.size, m.block, fun j hj => ?_⟩ (Or.inl rfl)
  rcases hj with hj | hj | hj | hj
  · exact Or.inr (Or.inl hj)
  · exact Or.inr (Or.inr (Or.inl hj))
  · exact Or.inr (Or.inr (Or.inr (Or.inl hj)))
  · rcases hat with e | e
    · exact Or.inr (Or.inr (Or.inr (Or.inr (e ▸ hj))))
    · rw [e] at hj; injection hj with hj; exact Or.inl (by omega)
/-- A row is a new one. -/
theorem R7.newIt (h : R7 base w M most queues vi vn vb its ins back nev) (hb1 : Below w.heap.size w w1) {vi' : Value} {its' : List (Int × Int)} (ho : w1.ownsRow base 114 2 vi' its'.length (its'.flatMap pr7)) (hat : ∀ j, vi'.ownBlock = some j → w.heap.size ≤ j) :
    R7 base (w1.setCell ⟨M, 2, none⟩ vi') M most queues vi' vn vb its' ins back nev ∧ MvS w (w1.setCell ⟨M, 2, none⟩ vi') (inR M vi vn vb) (inR M vi' vn vb) := by
  have h1 := h.below hb1
  refine ⟨⟨h.low, put6_2 h1.blk, ownsRow_setCell_other (a := ⟨M, 2, none⟩) ho (own_ne_blk ho h1.blk (by decide)) _, ownsRow_setCell_other (a := ⟨M, 2, none⟩) h1.pl h1.ne.2.1 _, ownsRow_setCell_other (a := ⟨M, 2, none⟩) h1.bk h1.ne.2.2 _⟩, ?_⟩
  have m := MvS.of_below (inR M vi vn vb) hb1
  refine mv_store (S' := inR M vi' vn vb) ⟨m.os, m.tape, m.output, m.size, m.block, fun j hj => ?_⟩ (Or.inl rfl)
  rcases hj with hj | hj | hj | hj
  · exact Or.inr (Or.inl hj)
  · exact Or.inl (hat j hj)
  · exact Or.inr (Or.inr (Or.inr (Or.inl hj)))
  · exact Or.inr (Or.inr (Or.inr (Or.inr hj)))
theorem R7.newPl (h : R7 base w M most queues vi vn vb its ins back nev) (hb1 : Below w.heap.size w w1) {vn' : Value} {ins' : List (Int × Int)} (ho : w1.ownsRow base 206 2 vn' ins'.length (ins'.flatMap pr7)) (hat : ∀ j, vn'.ownBlock = some j → w.heap.size ≤ j) :
    R7 base (w1.setCell ⟨M, 3, none⟩ vn') M most queues vi vn' vb its ins' back nev ∧ MvS w (w1.setCell ⟨M, 3, none⟩ vn') (inR M vi vn vb) (inR M vi vn' vb) := by
  have h1 := h.below hb1
  refine ⟨⟨h.low, put6_3 h1.blk, ownsRow_setCell_other (a := ⟨M, 3, none⟩) h1.it h1.ne.1 _, ownsRow_setCell_other (a := ⟨M, 3, none⟩) ho (own_ne_blk ho h1.blk (by decide)) _, ownsRow_setCell_other (a := ⟨M, 3, none⟩) h1.bk h1.ne.2.2 _⟩, ?_⟩
  have m := MvS.of_below (inR M vi vn vb) hb1
  refine mv_store (S' := inR M vi vn' vb) ⟨m.os, m.tape, m.output, m.size, m.block, fun j hj => ?_⟩ (Or.inl rfl)
  rcases hj with hj | hj | hj | hj
  · exact Or.inr (Or.inl hj)
  · exact Or.inr (Or.inr (Or.inl hj))
  · exact Or.inl (hat j hj)
  · exact Or.inr (Or.inr (Or.inr (Or.inr hj)))
theorem R7.setNev (h : R7 base w M most queues vi vn vb its ins back nev) (k : Int) : R7 base (w.setCell ⟨M, 5, none⟩ (.int .i64 k)) M most queues vi vn vb its ins back k ∧ MvS w (w.setCell ⟨M, 5, none⟩ (.int .i64 k)) (inR M vi vn vb) (inR M vi vn vb) :=
  ⟨⟨h.low, put6_5 h.blk, ownsRow_setCell_other (a := ⟨M, 5, none⟩) h.it h.ne.1 _, ownsRow_setCell_other (a := ⟨M, 5, none⟩) h.pl h.ne.2.1 _, ownsRow_setCell_other (a := ⟨M, 5, none⟩) h.bk h.ne.2.2 _⟩, mv_store (MvS.refl w _) (Or.inl rfl)⟩
theorem R7.pops {g c : Nat} {bs : List Int} {y : Int} (h : R7 base w M most queues vi vn (.slice (some ⟨g, 0, none⟩) (bs.length + 1) c) its ins (bs ++ [y]) nev) : R7 base (w.setCell ⟨M, 4, none⟩ (.slice (some ⟨g, 0, none⟩) bs.length c)) M most queues vi vn (.slice (some ⟨g, 0, none⟩) bs.length c) its ins bs nev ∧ MvS w (w.setCell ⟨M, 4, none⟩ (.slice (some ⟨g, 0, none⟩) bs.length c)) (inR M vi vn (.slice (some ⟨g, 0, none⟩) (bs.length + 1) c)) (inR M vi vn (.slice (some ⟨g, 0, none⟩) bs.length c)) := by
  have ho := h.bk
  simp only [List.length_append, List.length_singleton, List.map_append, List.map_cons, List.map_nil] at ho
  have ho2 : w.ownsRow base 3 1 (.slice (some ⟨g, 0, none⟩) bs.length c) bs.length (bs.map (.int .i64)) := ownsRow_pop (by simp) ho
  exact ⟨⟨h.low, put6_4 h.blk, ownsRow_setCell_other (a := ⟨M, 4, none⟩) h.it h.ne.1 _, ownsRow_setCell_other (a := ⟨M, 4, none⟩) h.pl h.ne.2.1 _, ownsRow_setCell_other (a := ⟨M, 4, none⟩) ho2 h.ne.2.2 _⟩, mv_store (S' := inR M vi vn (.slice (some ⟨g, 0, none⟩) bs.length c)) (MvS.refl w _) (Or.inl rfl)⟩
theorem R7.pops2 {g c m : Nat} {bs : List Int} {y : Int} (h : R7 base w M most queues vi vn (.slice (some ⟨g, 0, none⟩) (m + 1) c) its ins (bs ++ [y]) nev) (hm : bs.length = m) : R7 base (w.setCell ⟨M, 4, none⟩ (.slice (some ⟨g, 0, none⟩) m c)) M most queues vi vn (.slice (some ⟨g, 0, none⟩) m c) its ins bs nev ∧ MvS w (w.setCell ⟨M, 4, none⟩ (.slice (some ⟨g, 0, none⟩) m c)) (inR M vi vn (.slice (some ⟨g, 0, none⟩) (m + 1) c)) (inR M vi vn (.slice (some ⟨g, 0, none⟩) m c)) := by
  subst hm
  exact h.pops
theorem R7.drewN (h : R7 base w M most queues vi vn vb its ins back nev) (n : Nat) : R7 base (w.drewN n) M most queues vi vn vb its ins back nev := ⟨h.low, h.blk, h.it, h.pl, h.bk⟩
end
end Go.Proofs.Ytmkgadndfiiacaa
