/-
  Several boxes, apart from one another: how they stand; the first one that has something gives its first thing. No condition but that New made them.
-/
import Derived.Test.YtfjhcmihjffknaaMl8
namespace Go.Proofs.Ytfjhcmihjffknaa
set_option linter.unusedVariables false
set_option linter.unusedSimpArgs false
open Go.ChangeShapes Go.WideShapes Go.ChangeAt Go.RowKit
attribute [local go_sem] alloc_drewN setCell_drewN

theorem flat_first : ∀ (ls : List (List Int)) (i : Nat) (x : Int) (l : List Int), ls.getD i [] = x :: l → (∀ k, k < i → ls.getD k [] = []) → ls.flatten = x :: (ls.set i l).flatten
  | [], i, x, l, h, _ => by simp at h
  | m :: ls, 0, x, l, h, _ => by
    have h : m = x :: l := h
    subst h
    simp
  | m :: ls, i + 1, x, l, h, hk => by
    have h0 : m = [] := hk 0 (by omega)
    subst h0
    have ih := flat_first ls i x l h (fun k hlt => hk (k + 1) (by omega))
    simpa using ih
theorem flat_nil : ∀ (ls : List (List Int)), (∀ k, k < ls.length → ls.getD k [] = []) → ls.flatten = []
  | [], _ => rfl
  | m :: ls, h => by
    have h0 : m = [] := h 0 (by simp)
    subst h0
    have ih := flat_nil ls (fun k hk => h (k + 1) (by simp; omega))
    simpa using ih
theorem first_some : ∀ (ls : List (List Int)), ls.flatten ≠ [] → ∃ i x l, i < ls.length ∧ ls.getD i [] = x :: l ∧ ∀ k, k < i → ls.getD k [] = []
  | [], h => absurd rfl h
  | [] :: ls, h => by
    obtain ⟨i, x, l, h1, h2, h3⟩ := first_some ls (by simpa using h)
    refine ⟨i + 1, x, l, by simp; omega, h2, fun k hk => ?_⟩
    cases k with
    | zero => rfl
    | succ k => exact h3 k (by omega)
  | (x :: l) :: ls, h => ⟨0, x, l, by simp, rfl, fun k hk => absurd hk (by omega)⟩
theorem getD_set35 (ls : List (List Int)) (i k : Nat) (l : List Int) (hi : i < ls.length) : (ls.set i l).getD k [] = if i = k then l else ls.getD k [] := by
  rw [List.getD_eq_getElem?_getD, List.getElem?_set]
  by_cases h : i = k
  · subst h; simp [hi]
  · simp [h, List.getD_eq_getElem?_getD]
theorem getD_add35 {α : Type} (ls : List α) (d x : α) (k : Nat) : (ls ++ [x]).getD k d = if k < ls.length then ls.getD k d else if k = ls.length then x else d := by
  rw [List.getD_eq_getElem?_getD]
  by_cases h : k < ls.length
  · rw [if_pos h, List.getElem?_append_left h, List.getD_eq_getElem?_getD]
  · rw [if_neg h, List.getElem?_append_right (by omega)]
    by_cases h2 : k = ls.length
    · subst h2; simp
    · rw [if_neg h2]
      have : k - ls.length ≠ 0 := by omega
      rcases hq : k - ls.length with _ | q
      · omega
      · simp
/-- Several boxes, their blocks together. -/
def BxsG (w : World) (base : Nat) (Bs : List Nat) (ls : List (List Int)) (In : Nat → Prop) : Prop :=
  Bs.length = ls.length ∧ ∃ f : Nat → Nat → Prop, (∀ i, i < Bs.length → BxGI w base (Bs.getD i 0) 60 false (ls.getD i []) (f i)) ∧ (∀ i k, i < Bs.length → k < Bs.length → i ≠ k → ∀ j, f i j → ¬ f k j) ∧ ∀ j, In j ↔ ∃ i, i < Bs.length ∧ f i j
section
variable {w w' : World} {base : Nat} {Bs : List Nat} {ls : List (List Int)} {In : Nat → Prop}
theorem BxsG.nil (w : World) (base : Nat) : BxsG w base [] [] (fun _ => False) :=
  ⟨rfl, fun _ _ => False, fun i hi => absurd hi (by simp), fun i k hi => absurd hi (by simp), fun j => ⟨fun h => h.elim, fun ⟨i, hi, _⟩ => absurd hi (by simp)⟩⟩
theorem BxsG.keep (h : BxsG w base Bs ls In) (hk : ∀ j, In j → w'.heap[j]? = w.heap[j]?) : BxsG w' base Bs ls In := by
  obtain ⟨h1, f, h2, h3, h4⟩ := h
  exact ⟨h1, f, fun i hi => (h2 i hi).keep (fun j hj => hk j ((h4 j).2 ⟨i, hi, hj⟩)), h3, h4⟩
theorem BxsG.inlt (h : BxsG w base Bs ls In) {j : Nat} (hj : In j) : base ≤ j ∧ j < w.heap.size := by
  obtain ⟨h1, f, h2, h3, h4⟩ := h
  obtain ⟨i, hi, h5⟩ := (h4 j).1 hj
  exact (h2 i hi).inlt h5
theorem BxsG.below (h : BxsG w base Bs ls In) (hb : Below w.heap.size w w') : BxsG w' base Bs ls In := h.keep (fun j hj => hb.block j (h.inlt hj).2)
/-- A box more. -/
theorem BxsG.add {B : Nat} {l : List Int} {InB : Nat → Prop} (h : BxsG w base Bs ls In) (hb : BxGI w base B 60 false l InB) (ha : ∀ j, In j → ¬ InB j) : BxsG w base (Bs ++ [B]) (ls ++ [l]) (fun j => In j ∨ InB j) := by
  obtain ⟨h1, f, h2, h3, h4⟩ := h
  refine ⟨by simp [h1], fun i => if i < Bs.length then f i else InB, fun i hi => ?_, fun i k hi hk hne j hf hg => ?_, fun j => ⟨fun hj => ?_, fun ⟨i, hi, hj⟩ => ?_⟩⟩
  · rw [getD_add35, getD_add35, ← h1]
    by_cases hlt : i < Bs.length
    · simp only [if_pos hlt]; exact h2 i hlt
    · have e : i = Bs.length := by simp at hi; omega
      simp only [if_neg hlt, if_pos e]
      exact hb
  · simp only [List.length_append, List.length_singleton] at hi hk
    by_cases a : i < Bs.length
    · by_cases b : k < Bs.length
      · simp only [if_pos a] at hf; simp only [if_pos b] at hg
        exact h3 i k a b hne j hf hg
      · simp only [if_pos a] at hf; simp only [if_neg b] at hg
        exact ha j ((h4 j).2 ⟨i, a, hf⟩) hg
    · by_cases b : k < Bs.length
      · simp only [if_neg a] at hf; simp only [if_pos b] at hg
        exact ha j ((h4 j).2 ⟨k, b, hg⟩) hf
      · omega
  · rcases hj with hj | hj
    · obtain ⟨i, hi, h5⟩ := (h4 j).1 hj
      exact ⟨i, by simp; omega, by simp only [if_pos hi]; exact h5⟩
    · exact ⟨Bs.length, by simp, by simp only [if_neg (Nat.lt_irrefl _)]; exact hj⟩
  · by_cases a : i < Bs.length
    · simp only [if_pos a] at hj
      exact Or.inl ((h4 j).2 ⟨i, a, hj⟩)
    · simp only [if_neg a] at hj
      exact Or.inr hj
/-- A thing is taken from one of them. -/
theorem BxsG.take (h : BxsG w base Bs ls In) {i : Nat} {x : Int} {l : List Int} (hi : i < Bs.length) (hl : ls.getD i [] = x :: l) : Calls Try.prog 14 #[.pointer (some ⟨Bs.getD i 0, 0, none⟩)] w fun e w' => e = .returned (.tuple #[.int .i64 x, .bool true]) ∧ ∃ In', BxsG w' base Bs (ls.set i l) In' ∧ MvS w w' In In' ∧ ∀ j, In' j → In j := by
  obtain ⟨h1, f, h2, h3, h4⟩ := h
  have T := gtakeI (h2 i hi)
  rw [hl] at T
  refine T.mono fun e w' ⟨e1, f', b, m, hs⟩ => ?_
  refine ⟨e1.trans (by simp), fun j => ∃ k, k < Bs.length ∧ (if k = i then f' else f k) j, ⟨by simp [h1], fun k => if k = i then f' else f k, fun k hk => ?_, fun k q hk hq hne j hf hg => ?_, fun j => Iff.rfl⟩, ⟨m.os, m.tape, m.output, m.size, fun j hj hn => m.block j hj (fun hf => hn ((h4 j).2 ⟨i, hi, hf⟩)), fun j ⟨k, hk, hf⟩ => ?_⟩, fun j ⟨k, hk, hf⟩ => ?_⟩
  · rw [getD_set35 ls i k l (by omega)]
    by_cases hki : k = i
    · subst hki
      simp only [if_true]
      exact b
    · simp only [if_neg hki, if_neg (fun e : i = k => hki e.symm)]
      exact (h2 k hk).keep (fun j hj => m.block j ((h2 k hk).inlt hj).2 (fun hf => h3 k i hk hi hki j hj hf))
  · by_cases a : k = i
    · by_cases c : q = i
      · omega
      · simp only [if_pos a] at hf; simp only [if_neg c] at hg
        exact h3 q i hq hi c j hg (hs j hf)
    · by_cases c : q = i
      · simp only [if_neg a] at hf; simp only [if_pos c] at hg
        exact h3 k i hk hi a j hf (hs j hg)
      · simp only [if_neg a] at hf; simp only [if_neg c] at hg
        exact h3 k q hk hq hne j hf hg
  · by_cases a : k = i
    · simp only [if_pos a] at hf
      exact Or.inr ((h4 j).2 ⟨i, hi, hs j hf⟩)
    · simp only [if_neg a] at hf
      exact Or.inr ((h4 j).2 ⟨k, hk, hf⟩)
  · by_cases a : k = i
    · simp only [if_pos a] at hf
      exact (h4 j).2 ⟨i, hi, hs j hf⟩
    · simp only [if_neg a] at hf
      exact (h4 j).2 ⟨k, hk, hf⟩
theorem BxsG.none (h : BxsG w base Bs ls In) {i : Nat} (hi : i < Bs.length) (hl : ls.getD i [] = []) : Calls Try.prog 14 #[.pointer (some ⟨Bs.getD i 0, 0, none⟩)] w fun e w' => e = .returned (.tuple #[.int .i64 0, .bool false]) ∧ w' = w := by
  obtain ⟨h1, f, h2, h3, h4⟩ := h
  have T := h2 i hi
  rw [hl] at T
  obtain ⟨c, ps, h5, -⟩ := T
  have hp : ps = [] := List.length_eq_zero_iff.1 h5.lp
  subst hp
  exact mtake_noneI h5
end
end Go.Proofs.Ytfjhcmihjffknaa
