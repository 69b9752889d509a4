/-
  A sort's outcome as a sorted list; what a sort leaves of all that lay lower. Plain words on worlds and lists. No condition.
-/
import Derived.Test.YtkgiaijcgblpbaaHeapMath
import Derived.Test.YtkgiaijcgblpbaaBase
import Derived.Shelf.SlSortCmp.WholeK
namespace Go.Proofs.Ytkgiaijcgblpbaa
set_option linter.unusedVariables false
set_option linter.unusedSimpArgs false
open Go.Shelf Go.RowKit Go.Lib Go.Sort

instance {α : Type} [Inhabited α] : Inhabited (Ent α) := ⟨⟨0, default, 0⟩⟩
theorem sort_below {α : Type} [Inhabited α] (enc : α → List Value) (k : Nat) (w : World) (blk off n m : Nat) (d : Array α) (os : Array Obj) (h : m ≤ blk) (hm : m ≤ w.heap.size) : Go.RowKit.Below m w (sortWorldK enc k w blk off n d os) := by
  refine ⟨rfl, rfl, rfl, ?_, fun j hj => ?_⟩
  · simp [sortWorldK, putRowK, grow]
  · show ((putRow id (Go.Sort.ahead w n) blk off (flatK enc k d)).heap ++ os)[j]? = _
    rw [Array.getElem?_append_left (by simp; omega)]
    show (w.heap.modify blk _)[j]? = _
    rw [Array.getElem?_modify, if_neg (by omega)]
theorem ent_swo {α : Type} : SWO (ltOf (fun a b : Ent α => a.cmp b)) := by
  have e : ∀ a b : Ent α, ltOf (fun a b : Ent α => a.cmp b) a b = decide (a.lt b) := fun a b => Ent.cmp_neg a b
  refine ⟨fun x => ?_, fun x y z h1 h2 => ?_, fun x y z h1 h2 => ?_⟩
  · rw [e, decide_eq_false_iff_not]; exact Ent.lt_irrefl x
  · rw [e, decide_eq_true_iff] at *; exact Ent.lt_trans h1 h2
  · rw [e, decide_eq_false_iff_not] at *; exact Ent.le_trans h2 h1
theorem sorted_is {α : Type} [Inhabited α] (d d' : Array (Ent α)) (ms : List (Ent α)) (h1 : PermIn 0 d.size d d') (h2 : SortedIn (ltOf (fun a b : Ent α => a.cmp b)) 0 d.size d') (hp : d.toList.Perm ms) (hs : Srt ms) : d'.toList = ms := by
  obtain ⟨e1, _, e3⟩ := h1
  have ex : d'.extract 0 d.size = d' := by rw [← e1]; simp
  have ex2 : d.extract 0 d.size = d := by simp
  rw [ex, ex2] at e3
  have hp' : d'.toList.Perm ms := e3.trans hp
  refine Srt.uniq ?_ hs hp'
  have hnd : ms.Nodup := List.Pairwise.imp (R := Ent.lt) (S := fun a b => a ≠ b) (fun {a b} hab e => Ent.lt_irrefl b (by rw [e] at hab; exact hab)) hs
  have hnd' : d'.toList.Nodup := hp'.nodup_iff.2 hnd
  have hany : ∀ a ∈ ms, ∀ b ∈ ms, a ≠ b → a.lt b ∨ b.lt a := by
    intro a ha b hb hab
    obtain ⟨i, hi, rfl⟩ := List.getElem_of_mem ha
    obtain ⟨j, hj, rfl⟩ := List.getElem_of_mem hb
    have hij : i ≠ j := fun e => hab (by subst e; rfl)
    have hs' := List.pairwise_iff_getElem.1 hs
    rcases Nat.lt_or_ge i j with h | h
    · exact Or.inl (hs' i j hi hj h)
    · exact Or.inr (hs' j i hj hi (by omega))
  unfold Srt
  rw [List.pairwise_iff_getElem]
  intro i j hi hj hij
  have hi' : i < d'.size := by simpa using hi
  have hj' : j < d'.size := by simpa using hj
  have h3 := h2 i j (Nat.zero_le _) hij (by omega)
  rw [getElem!_pos d' i hi', getElem!_pos d' j hj'] at h3
  have h4 : ¬ (d'[j]).lt (d'[i]) := by
    have : decide ((d'[j]).lt d'[i]) = false := by rw [← Ent.cmp_neg]; exact h3
    simpa using this
  have h5 : d'.toList[i] ≠ d'.toList[j] := fun e => by
    have := (List.getElem_inj hnd').1 e
    omega
  have ha := hp'.mem_iff.1 (List.getElem_mem hi)
  have hb := hp'.mem_iff.1 (List.getElem_mem hj)
  rcases hany _ ha _ hb h5 with h | h
  · exact h
  · exact absurd (by simpa using h) h4
end Go.Proofs.Ytkgiaijcgblpbaa
