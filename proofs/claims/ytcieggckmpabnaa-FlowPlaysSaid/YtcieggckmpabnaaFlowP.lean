/-
  Layer 15: the entries of a table and the document's, as pairs: an insertion, a change, a removal are one and the same. Pure lists.
-/
import Derived.Test.YtcieggckmpabnaaFlowK
import Derived.Test.YtcieggckmpabnaaR15
namespace Go.Proofs.Ytcieggckmpabnaa
set_option linter.unusedVariables false
set_option linter.unusedSimpArgs false

def prs (es : List FeI) : List (Int × Int) := es.map fun e => (e.id, e.x)
theorem prs_len (es : List FeI) : (prs es).length = es.length := List.length_map ..
theorem prs_fst (es : List FeI) : (prs es).map Prod.fst = es.map FeI.id := by simp [prs, Function.comp_def]
theorem prs_no {es : List FeI} {id : Int} (hs : (es.map FeI.id).Pairwise (· < ·)) (h : isF (es.map FeI.id) id = false) : ∀ m ∈ prs es, m.1 ≠ id := fun m hm e => by
  obtain ⟨y, hy, rfl⟩ := List.mem_map.1 hm
  have := (mem_isF hs hy).1
  rw [show y.id = id from e, h] at this
  cases this
theorem prs_yes {es : List FeI} {id : Int} (h : isF (es.map FeI.id) id = true) : ∃ m ∈ prs es, m.1 = id := by
  obtain ⟨hl, hid⟩ := isF_at h
  exact ⟨_, List.mem_map.2 ⟨_, List.getElem_mem hl, rfl⟩, hid⟩
/-- The place is one. -/
theorem prs_at {es : List FeI} {id : Int} (hs : (es.map FeI.id).Pairwise (· < ·)) {k : Nat} (hk : k < (prs es).length) (he : ((prs es)[k]).1 = id) : isF (es.map FeI.id) id = true ∧ k = lessC (es.map FeI.id) id ∧ ((prs es)[k]).2 = (es.getD k FeI.nil).x := by
  have hk' : k < es.length := by rw [prs_len] at hk; exact hk
  have e1 : (prs es)[k] = ((es[k]).id, (es[k]).x) := by simp [prs]
  rw [e1] at he ⊢
  have hid : (es[k]).id = id := he
  obtain ⟨hF, hG⟩ := mem_isF hs (List.getElem_mem hk')
  rw [hid] at hF hG
  obtain ⟨hl, hi2⟩ := isF_at hF
  refine ⟨hF, ?_, by rw [List.getD_eq_getElem?_getD, List.getElem?_eq_getElem hk']; rfl⟩
  have hp := List.pairwise_iff_getElem.1 hs
  rcases Nat.lt_trichotomy k (lessC (es.map FeI.id) id) with h | h | h
  · have := hp k (lessC (es.map FeI.id) id) (by simpa using hk') (by simpa using hl) h
    simp only [List.getElem_map] at this
    omega
  · exact h
  · have := hp (lessC (es.map FeI.id) id) k (by simpa using hl) (by simpa using hk') h
    simp only [List.getElem_map] at this
    omega
theorem prs_ins {es : List FeI} {id x : Int} (hs : (es.map FeI.id).Pairwise (· < ·)) (h : isF (es.map FeI.id) id = false) :
    insP15 (prs es) (id, x) = prs (es.take (lessC (es.map FeI.id) id) ++ ⟨id, x⟩ :: es.drop (lessC (es.map FeI.id) id)) := by
  have hr := ins_rise hs h
  generalize hk : lessC (es.map FeI.id) id = k at *
  rw [List.pairwise_append, List.pairwise_cons] at hr
  obtain ⟨_, ⟨h2, _⟩, h3⟩ := hr
  have e0 : prs es = prs (es.take k) ++ prs (es.drop k) := by rw [prs, prs, prs, ← List.map_append, List.take_append_drop]
  rw [e0, insP15_none]
  · have e1 : insP15 (prs (es.drop k)) (id, x) = (id, x) :: prs (es.drop k) := by
      cases hd : es.drop k with
      | nil => rfl
      | cons y t =>
        have hy : id < y.id := h2 y.id (by rw [← List.map_drop, hd]; simp)
        show insP15 ((y.id, y.x) :: prs t) (id, x) = _
        rw [insP15, if_pos hy]
        rfl
    rw [e1]
    simp [prs]
  · intro m hm
    obtain ⟨y, hy, rfl⟩ := List.mem_map.1 hm
    have := h3 y.id (by rw [← List.map_take]; exact List.mem_map_of_mem hy) id List.mem_cons_self
    show ¬ id < y.id
    omega
theorem prs_set {es : List FeI} (k : Nat) (id x : Int) : (prs es).set k (id, x) = prs (es.set k ⟨id, x⟩) := by
  simp [prs, List.map_set]
theorem prs_del {es : List FeI} (k : Nat) : (prs es).take k ++ (prs es).drop (k + 1) = prs (es.take k ++ es.drop (k + 1)) := by
  simp [prs]
end Go.Proofs.Ytcieggckmpabnaa
