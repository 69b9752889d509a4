/-
  Items that were put into queues, one by one, each behind those of its queue, and that leave queue by queue. Plain lists. No condition.
-/
import Derived.Test.YtkgiaijcgblpbaaSpI5
import Derived.Test.YtkgiaijcgblpbaaInts
namespace Go.Proofs.Ytkgiaijcgblpbaa
set_option linter.unusedVariables false
set_option linter.unusedSimpArgs false
open Go.ChangeShapes Go.WideShapes Go.ChangeAt Go.RowKit

/-- What stands in a queue: those that went there, in order. -/
def inK (zs : List Int) (ats : List Nat) (q : Nat) : List (Int × Int) := ((List.range ats.length).filter (fun t => ats.getD t 0 == q)).map (fun t => (zs.getD t 0, (t : Int)))
theorem getD_app (ats : List Nat) (j t : Nat) (h : t < ats.length) : (ats ++ [j]).getD t 0 = ats.getD t 0 := by
  rw [List.getD_eq_getElem?_getD, List.getElem?_append_left h, ← List.getD_eq_getElem?_getD]
theorem getD_end (ats : List Nat) (j : Nat) : (ats ++ [j]).getD ats.length 0 = j := by
  rw [List.getD_eq_getElem?_getD, List.getElem?_append_right (Nat.le_refl _)]; simp
theorem inK_push (zs : List Int) (ats : List Nat) (j q : Nat) : inK zs (ats ++ [j]) q = inK zs ats q ++ (if j = q then [(zs.getD ats.length 0, (ats.length : Int))] else []) := by
  unfold inK
  rw [List.length_append, List.length_singleton, List.range_succ, List.filter_append, List.map_append]
  have e : (List.range ats.length).filter (fun t => (ats ++ [j]).getD t 0 == q) = (List.range ats.length).filter (fun t => ats.getD t 0 == q) := by
    apply List.filter_congr
    intro t ht
    rw [getD_app ats j t (List.mem_range.1 ht)]
  rw [e]
  congr 1
  rw [List.filter_cons, getD_end]
  by_cases h : j = q
  · rw [if_pos h, if_pos (by simpa using h)]; rfl
  · rw [if_neg h, if_neg (by simpa using h)]; rfl
def allK (zs : List Int) (ats : List Nat) (m : Nat) : List (List (Int × Int)) := (List.range m).map (inK zs ats)
theorem allK_at (zs : List Int) (ats : List Nat) (m i : Nat) (h : i < (allK zs ats m).length) : (allK zs ats m)[i] = inK zs ats i := by simp [allK]
theorem allK_start (zs : List Int) (rs : List RgI) (m : Nat) (hm : rs.length = m) (hk : ∀ i (hi : i < rs.length), (rs[i]).k = 0) : csI rs = allK zs [] m := by
  apply List.ext_getElem (by unfold allK; rw [cs_lenI, List.length_map, List.length_range]; exact hm)
  intro i h1 h2
  have hi : i < rs.length := by rw [← cs_lenI]; exact h1
  have e := cs_atI rs i hi
  rw [List.getD_eq_getElem?_getD, List.getElem?_eq_getElem h1] at e
  have e2 : (csI rs)[i] = (rs[i]).c := e
  rw [e2, allK_at]
  exact List.eq_nil_of_length_eq_zero (by unfold RgI.c; rw [cont_length]; exact hk i hi)
theorem allK_push (zs : List Int) (ats : List Nat) (m j : Nat) (hj : j < m) : (allK zs ats m).set j ((allK zs ats m).getD j [] ++ [(zs.getD ats.length 0, (ats.length : Int))]) = allK zs (ats ++ [j]) m := by
  have g : ∀ q, q < m → (allK zs ats m).getD q [] = inK zs ats q := fun q hq => by
    unfold allK
    rw [List.getD_eq_getElem?_getD, List.getElem?_map, List.getElem?_range hq]; rfl
  have hl : (allK zs ats m).length = m := by unfold allK; rw [List.length_map, List.length_range]
  apply List.ext_getElem (by rw [List.length_set, hl]; unfold allK; rw [List.length_map, List.length_range])
  intro i h1 h2
  have hi : i < m := by rw [List.length_set, hl] at h1; exact h1
  have e2 : (allK zs (ats ++ [j]) m)[i] = inK zs (ats ++ [j]) i := allK_at _ _ _ _ h2
  rw [e2, inK_push]
  by_cases hij : j = i
  · subst hij
    rw [List.getElem_set_self, if_pos rfl, g j hj]
  · rw [List.getElem_set_ne hij, if_neg hij, List.append_nil, allK_at]
/-- One goes ahead of another: its queue is lower, or it is the same, and it came first. -/
def Ahead (ats : List Nat) (a b : Int × Int) : Prop := ats.getD a.2.toNat 0 < ats.getD b.2.toNat 0 ∨ (ats.getD a.2.toNat 0 = ats.getD b.2.toNat 0 ∧ a.2 < b.2)
theorem inK_mem {zs : List Int} {ats : List Nat} {q : Nat} {y : Int × Int} (h : y ∈ inK zs ats q) : ∃ t : Nat, t < ats.length ∧ y = (zs.getD t 0, (t : Int)) ∧ ats.getD t 0 = q := by
  unfold inK at h
  obtain ⟨t, ht, rfl⟩ := List.mem_map.1 h
  obtain ⟨h1, h2⟩ := List.mem_filter.1 ht
  exact ⟨t, List.mem_range.1 h1, rfl, by simpa using h2⟩
theorem allK_mem {zs : List Int} {ats : List Nat} {m : Nat} {y : Int × Int} (h : y ∈ (allK zs ats m).flatten) : ∃ t : Nat, t < ats.length ∧ y = (zs.getD t 0, (t : Int)) := by
  obtain ⟨l, hl, hy⟩ := List.mem_flatten.1 h
  unfold allK at hl
  obtain ⟨q, _, rfl⟩ := List.mem_map.1 hl
  obtain ⟨t, ht, he, _⟩ := inK_mem hy
  exact ⟨t, ht, he⟩
theorem allK_ahead (zs : List Int) (ats : List Nat) (m : Nat) : (allK zs ats m).flatten.Pairwise (Ahead ats) := by
  rw [List.pairwise_flatten]
  constructor
  · intro l hl
    unfold allK at hl
    obtain ⟨q, _, rfl⟩ := List.mem_map.1 hl
    unfold inK
    rw [List.pairwise_map]
    have hp : ((List.range ats.length).filter (fun t => ats.getD t 0 == q)).Pairwise (· < ·) := List.Pairwise.filter _ List.pairwise_lt_range
    refine List.Pairwise.imp_of_mem ?_ hp
    intro a b ha hb hab
    have h1 := (List.mem_filter.1 ha).2
    have h2 := (List.mem_filter.1 hb).2
    right
    show ats.getD ((a : Int)).toNat 0 = ats.getD ((b : Int)).toNat 0 ∧ (a : Int) < b
    rw [Int.toNat_natCast, Int.toNat_natCast]
    have h1' : ats.getD a 0 = q := by simpa using h1
    have h2' : ats.getD b 0 = q := by simpa using h2
    exact ⟨by rw [h1', h2'], by omega⟩
  · unfold allK
    rw [List.pairwise_map]
    refine List.Pairwise.imp ?_ List.pairwise_lt_range
    intro q1 q2 hq x hx y hy
    obtain ⟨t1, _, rfl, e1⟩ := inK_mem hx
    obtain ⟨t2, _, rfl, e2⟩ := inK_mem hy
    left
    show ats.getD ((t1 : Int)).toNat 0 < ats.getD ((t2 : Int)).toNat 0
    rw [Int.toNat_natCast, Int.toNat_natCast, e1, e2]
    exact hq
theorem tot_flat : ∀ (rs : List RgI), totI rs = ((csI rs).flatten).length
  | [] => rfl
  | r :: rs => by
    have h := tot_flat rs
    unfold totI csI at *
    rw [List.map_cons, List.sum_cons, List.map_cons, List.flatten_cons, List.length_append, h]
    congr 1
    unfold RgI.c
    rw [cont_length]
theorem pop_flat : ∀ (qs : List (List (Int × Int))) (j : Nat) (y : Int × Int) (t : List (Int × Int)), j < qs.length → qs.getD j [] = y :: t → (∀ i, i < j → qs.getD i [] = []) → qs.flatten = y :: (qs.set j t).flatten
  | [], j, y, t, h, _, _ => absurd h (Nat.not_lt_zero _)
  | a :: qs, 0, y, t, _, h, _ => by
    have h' : a = y :: t := h
    rw [h']; rfl
  | a :: qs, j + 1, y, t, hj, h, hb => by
    have ha : a = [] := hb 0 (by omega)
    have ih := pop_flat qs j y t (by simpa using hj) (by simpa using h) (fun i hi => by have := hb (i + 1) (by omega); simpa using this)
    rw [ha, List.set_cons_succ, List.flatten_cons, List.flatten_cons, ih]; rfl
theorem PopdI.flat {qs qs' : List (List (Int × Int))} {y : Int × Int} (h : PopdI qs qs' y) : qs.flatten = y :: qs'.flatten := by
  obtain ⟨j, t, hj, hy, rfl, hb⟩ := h.out
  exact pop_flat qs j y t hj hy hb
theorem flat_none (qs : List (List (Int × Int))) (h : ∀ i, i < qs.length → qs.getD i [] = []) : qs.flatten = [] := by
  rw [List.flatten_eq_nil_iff]
  intro l hl
  obtain ⟨i, hi, rfl⟩ := List.getElem_of_mem hl
  have := h i hi
  rwa [List.getD_eq_getElem?_getD, List.getElem?_eq_getElem hi] at this
/-- How far it has been popped. -/
structure PopK (E : List (Int × Int)) (ats : List Nat) (l p : Nat) (gone : List Bool) (queue last : Int) : Prop where
  len : gone.length = l
  yes : ∀ t : Nat, t < l → (gone.getD t false = true ↔ ∃ q, q < p ∧ (E[q]?).map (·.2) = some (t : Int))
  start : p = 0 → queue = 0 ∧ last = -1
  prev : 0 < p → ∃ y, E[p - 1]? = some y ∧ last = y.2 ∧ queue = (ats.getD y.2.toNat 0 : Nat)
theorem PopK.begin (E : List (Int × Int)) (ats : List Nat) (l : Nat) : PopK E ats l 0 (List.replicate l false) 0 (-1) :=
  ⟨List.length_replicate .., fun t ht => ⟨fun h => (by rw [List.getD_eq_getElem?_getD, List.getElem?_replicate, if_pos ht] at h; cases h), fun ⟨q, hq, _⟩ => absurd hq (Nat.not_lt_zero _)⟩, fun _ => ⟨rfl, rfl⟩, fun h => absurd h (Nat.lt_irrefl _)⟩
theorem getD_setBK (l : List Bool) (k j : Nat) (b : Bool) (hk : k < l.length) : (l.set k b).getD j false = if j = k then b else l.getD j false := by
  by_cases h : j = k
  · subst h; rw [if_pos rfl, List.getD_eq_getElem?_getD, List.getElem?_set_self hk]; rfl
  · rw [if_neg h, List.getD_eq_getElem?_getD, List.getElem?_set_ne (Ne.symm h), ← List.getD_eq_getElem?_getD]
theorem PopK.next {E : List (Int × Int)} {ats : List Nat} {l p : Nat} {gone : List Bool} {queue last : Int} (h : PopK E ats l p gone queue last) (hE : E.Pairwise (Ahead ats)) (t : Nat) (ht : t < l) (r : Int) (hp : E[p]? = some (r, (t : Int))) :
    gone.getD t false = false ∧ ¬ ((ats.getD t 0 : Nat) : Int) < queue ∧ (((ats.getD t 0 : Nat) : Int) = queue → ¬ (t : Int) < last) ∧ PopK E ats l (p + 1) (gone.set t true) (ats.getD t 0 : Nat) t := by
  have hpl : p < E.length := (List.getElem?_eq_some_iff.1 hp).1
  have hpe : E[p] = (r, (t : Int)) := (List.getElem?_eq_some_iff.1 hp).2
  have hpw := List.pairwise_iff_getElem.1 hE
  have hgf : gone.getD t false = false := by
    cases hx : gone.getD t false with
    | false => rfl
    | true =>
      obtain ⟨q, hq, hm⟩ := (h.yes t ht).1 hx
      have hql : q < E.length := by omega
      rw [List.getElem?_eq_getElem hql] at hm
      have hm' : (E[q]).2 = (t : Int) := by simpa using hm
      have := hpw q p hql hpl hq
      unfold Ahead at this
      rw [hm', hpe] at this
      simp at this
  have hprev : ¬ ((ats.getD t 0 : Nat) : Int) < queue ∧ (((ats.getD t 0 : Nat) : Int) = queue → ¬ (t : Int) < last) := by
    rcases Nat.eq_zero_or_pos p with h0 | h0
    · obtain ⟨rfl, rfl⟩ := h.start h0
      exact ⟨by omega, fun _ => by omega⟩
    · obtain ⟨y, hy, rfl, rfl⟩ := h.prev h0
      have hql : p - 1 < E.length := by omega
      have hye : E[p - 1] = y := by rw [List.getElem?_eq_getElem hql] at hy; exact Option.some.inj hy
      have := hpw (p - 1) p hql hpl (by omega)
      unfold Ahead at this
      rw [hye, hpe] at this
      dsimp only at this
      rw [Int.toNat_natCast] at this
      constructor
      · omega
      · intro he; omega
  refine ⟨hgf, hprev.1, hprev.2, by rw [List.length_set]; exact h.len, fun i hi => ?_, fun hh => by omega, fun _ => ⟨(r, (t : Int)), by rw [Nat.add_sub_cancel]; exact hp, rfl, by rw [Int.toNat_natCast]⟩⟩
  rw [getD_setBK _ _ _ _ (by rw [h.len]; exact ht)]
  by_cases hit : i = t
  · subst hit
    rw [if_pos rfl]
    exact ⟨fun _ => ⟨p, by omega, by rw [hp]; rfl⟩, fun _ => rfl⟩
  · rw [if_neg hit, h.yes i hi]
    constructor
    · rintro ⟨q, hq, hm⟩; exact ⟨q, by omega, hm⟩
    · rintro ⟨q, hq, hm⟩
      by_cases hqp : q = p
      · subst hqp
        rw [hp] at hm
        have : (t : Int) = i := by simpa using hm
        omega
      · exact ⟨q, by omega, hm⟩
end Go.Proofs.Ytkgiaijcgblpbaa
