/-
  A row that lies in a circle of places: what is put behind it, taken ahead of it, and laid anew. No Go in it. No condition.
-/
import Derived.WalkKit
namespace Go.Proofs.Ytiogfgkfipekbaa
set_option linter.unusedVariables false
set_option linter.unusedSimpArgs false

section
variable {α : Type}
/-- The row: so many elements from a place on, round the circle. -/
def cont (d : α) (ps : List α) (f k : Nat) : List α := (List.range k).map fun j => ps.getD ((f + j) % ps.length) d
theorem cont_length (d : α) (ps : List α) (f k : Nat) : (cont d ps f k).length = k := by simp [cont]
theorem cont_zero (d : α) (ps : List α) (f : Nat) : cont d ps f 0 = [] := rfl
theorem cont_getD (d : α) (ps : List α) (f k j : Nat) (h : j < k) : (cont d ps f k).getD j d = ps.getD ((f + j) % ps.length) d := by
  unfold cont
  rw [List.getD_eq_getElem?_getD, List.getElem?_map, List.getElem?_range h]; rfl
theorem mod_ne (n f a b : Nat) (ha : a < n) (hb : b < n) (hne : a ≠ b) : (f + a) % n ≠ (f + b) % n := by
  intro h
  have h1 := Nat.div_add_mod (f + a) n
  have h2 := Nat.div_add_mod (f + b) n
  rw [h] at h1
  rcases Nat.lt_trichotomy ((f + a) / n) ((f + b) / n) with hq | hq | hq
  · obtain ⟨q, hq'⟩ : ∃ q, (f + b) / n = (f + a) / n + 1 + q := ⟨(f + b) / n - (f + a) / n - 1, by omega⟩
    rw [hq', Nat.mul_add, Nat.mul_add] at h2
    omega
  · rw [hq] at h1; omega
  · obtain ⟨q, hq'⟩ : ∃ q, (f + a) / n = (f + b) / n + 1 + q := ⟨(f + a) / n - (f + b) / n - 1, by omega⟩
    rw [hq', Nat.mul_add, Nat.mul_add] at h1
    omega
theorem getD_set (ps : List α) (i j : Nat) (x d : α) (hi : i < ps.length) : (ps.set i x).getD j d = if j = i then x else ps.getD j d := by
  rw [List.getD_eq_getElem?_getD, List.getElem?_set, List.getD_eq_getElem?_getD]
  by_cases h : i = j
  · subst h; simp [hi]
  · rw [if_neg h, if_neg (Ne.symm h)]
theorem cont_put (d : α) (ps : List α) (f k : Nat) (x : α) (h : k < ps.length) : cont d (ps.set ((f + k) % ps.length) x) f (k + 1) = cont d ps f k ++ [x] := by
  have hp : (f + k) % ps.length < ps.length := Nat.mod_lt _ (by omega)
  unfold cont
  rw [List.range_succ, List.map_append, List.length_set]
  congr 1
  · apply List.map_congr_left
    intro j hj
    rw [List.mem_range] at hj
    rw [getD_set _ _ _ _ _ hp, if_neg (mod_ne _ _ _ _ (by omega) h (by omega))]
  · show [(ps.set _ x).getD _ d] = [x]
    rw [getD_set _ _ _ _ _ hp, if_pos rfl]
theorem cont_take (d : α) (ps : List α) (f k : Nat) (z : α) (h : k + 1 ≤ ps.length) (hf : f < ps.length) : cont d (ps.set f z) ((f + 1) % ps.length) k = (cont d ps f (k + 1)).drop 1 := by
  unfold cont
  rw [List.range_succ_eq_map, List.map_cons, List.drop_succ_cons, List.drop_zero, List.map_map, List.length_set]
  apply List.map_congr_left
  intro j hj
  rw [List.mem_range] at hj
  have e : ((f + 1) % ps.length + j) % ps.length = (f + (j + 1)) % ps.length := by
    rw [Nat.mod_add_mod]; congr 1; omega
  rw [e, getD_set _ _ _ _ _ hf]
  have hne : (f + (j + 1)) % ps.length ≠ f := by
    have := mod_ne ps.length f (j + 1) 0 (by omega) (by omega) (by omega)
    have e2 : (f + 0) % ps.length = f := Nat.mod_eq_of_lt hf
    rw [e2] at this
    exact this
  rw [if_neg hne]
  rfl
theorem cont_head (d : α) (ps : List α) (f k : Nat) (hk : 0 < k) (hf : f < ps.length) : (cont d ps f k).getD 0 d = ps.getD f d := by
  rw [cont_getD _ _ _ _ _ hk, Nat.add_zero, Nat.mod_eq_of_lt hf]
theorem cont_grow (d : α) (l m : List α) : cont d (l ++ m) 0 l.length = l := by
  apply List.ext_getElem (by rw [cont_length])
  intro j h1 h2
  have h1' := h1
  rw [cont_length] at h1'
  have e := cont_getD d (l ++ m) 0 l.length j h1'
  rw [List.getD_eq_getElem?_getD, List.getElem?_eq_getElem h1] at e
  rw [Nat.zero_add, Nat.mod_eq_of_lt (by rw [List.length_append]; omega), List.getD_eq_getElem?_getD, List.getElem?_append_left h1', List.getElem?_eq_getElem h1'] at e
  exact e
theorem cont_drop_getD (d : α) (ps : List α) (f k m i : Nat) (hm : m ≤ k) (hi : i < m) : ((cont d ps f k).drop (k - m)).getD i d = ps.getD ((f + (k - m + i)) % ps.length) d := by
  rw [List.getD_eq_getElem?_getD, List.getElem?_drop, ← List.getD_eq_getElem?_getD, cont_getD _ _ _ _ _ (by omega)]
end
end Go.Proofs.Ytiogfgkfipekbaa
