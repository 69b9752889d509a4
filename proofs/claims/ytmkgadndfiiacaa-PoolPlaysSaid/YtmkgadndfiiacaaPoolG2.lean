/-
  What lies under a pool's handles behind each thing that is done: plain lists. No Go in it. No condition.
-/
import Derived.Test.YtmkgadndfiiacaaPoolG
namespace Go.Proofs.Ytmkgadndfiiacaa
set_option linter.unusedVariables false
set_option linter.unusedSimpArgs false

/-- What lies under a handle. -/
def xOf (es : List EntI) (x : Int) : Int := if 0 ≤ x then ((es[x.toNat]?).map EntI.x).getD 0 else 0
theorem xOf_in (es : List EntI) (k : Nat) (hk : k < es.length) : xOf es k = (es[k]).x := by
  unfold xOf
  rw [if_pos (by omega), Int.toNat_natCast, List.getElem?_eq_getElem hk]; rfl
theorem tkOf_set (es : List EntI) (k : Nat) (e : EntI) (hk : k < es.length) (x : Int) : tkOfI (es.set k e) x = if x = (k : Int) then e.tk else tkOfI es x := by
  by_cases hx : x = (k : Int)
  · subst hx
    rw [if_pos rfl, tkOf_inI _ k (by rw [List.length_set]; exact hk), List.getElem_set_self]
  · rw [if_neg hx]
    rcases Int.lt_or_le x 0 with h0 | h0
    · rw [tkOf_outI _ x (Or.inl h0), tkOf_outI _ x (Or.inl h0)]
    · unfold tkOfI
      rw [List.getElem?_set_ne (by omega)]
theorem xOf_set (es : List EntI) (k : Nat) (e : EntI) (hk : k < es.length) (x : Int) : xOf (es.set k e) x = if x = (k : Int) then e.x else xOf es x := by
  by_cases hx : x = (k : Int)
  · subst hx
    rw [if_pos rfl, xOf_in _ k (by rw [List.length_set]; exact hk), List.getElem_set_self]
  · rw [if_neg hx]
    unfold xOf
    by_cases h0 : 0 ≤ x
    · rw [if_pos h0, if_pos h0, List.getElem?_set_ne (by omega)]
    · rw [if_neg h0, if_neg h0]
theorem tkOf_append (es : List EntI) (e : EntI) (x : Int) : tkOfI (es ++ [e]) x = if x = (es.length : Int) then e.tk else tkOfI es x := by
  by_cases hx : x = (es.length : Int)
  · subst hx
    rw [if_pos rfl, tkOf_inI _ es.length (by simp), List.getElem_append_right (Nat.le_refl _)]
    simp
  · rw [if_neg hx]
    rcases Int.lt_or_le x 0 with h0 | h0
    · rw [tkOf_outI _ x (Or.inl h0), tkOf_outI _ x (Or.inl h0)]
    · rcases Int.lt_or_le x (es.length : Int) with h1 | h1
      · unfold tkOfI
        rw [List.getElem?_append_left (by omega)]
      · rw [tkOf_outI _ x (Or.inr (by simp; omega)), tkOf_outI _ x (Or.inr h1)]
theorem xOf_append (es : List EntI) (e : EntI) (x : Int) (hx : x ≠ (es.length : Int)) : xOf (es ++ [e]) x = xOf es x := by
  unfold xOf
  by_cases h0 : 0 ≤ x
  · rw [if_pos h0, if_pos h0]
    rcases Nat.lt_or_ge x.toNat es.length with h1 | h1
    · rw [List.getElem?_append_left h1]
    · rw [List.getElem?_eq_none (by simp; omega), List.getElem?_eq_none h1]
  · rw [if_neg h0, if_neg h0]
theorem xOf_append_self (es : List EntI) (e : EntI) : xOf (es ++ [e]) (es.length : Int) = e.x := by
  rw [xOf_in _ es.length (by simp), List.getElem_append_right (Nat.le_refl _)]
  simp
/-- What a handle is taken as: it was not taken; it is now, with its thing; all others are as they were. -/
theorem Took.tells {es es' : List EntI} {fr fr' : List Int} {x : Int} {k : Nat} {qs : List (Int × Int × Int)} {Ls : List (List Int)} (h : PInv es fr qs Ls) (t : Took es fr x k es' fr') :
    tkOfI es k = false ∧ (∀ y : Int, tkOfI es' y = if y = (k : Int) then true else tkOfI es y) ∧ (∀ y : Int, xOf es' y = if y = (k : Int) then x else xOf es y) := by
  rcases t with ⟨_, rfl, rfl, _⟩ | ⟨hf, rfl⟩
  · refine ⟨tkOf_outI _ _ (Or.inr (Int.le_refl _)), fun y => tkOf_append es _ y, fun y => ?_⟩
    by_cases hy : y = (es.length : Int)
    · subst hy; rw [if_pos rfl, xOf_append_self]
    · rw [if_neg hy, xOf_append _ _ _ hy]
  · have hm : (k : Int) ∈ fr := by rw [hf]; simp
    have hk : k < es.length := by have := (h.fb _ hm).2; omega
    refine ⟨?_, fun y => tkOf_set es k _ hk y, fun y => xOf_set es k _ hk y⟩
    rw [tkOf_inI es k hk]; exact (h.fm k hk).1 hm
end Go.Proofs.Ytmkgadndfiiacaa
