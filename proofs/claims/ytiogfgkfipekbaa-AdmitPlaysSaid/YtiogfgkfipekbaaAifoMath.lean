/-
  Ranks in order beside the same ranks as they came: how many are less, one taken out, one put in. No Go in it. No condition.
-/
import Derived.WalkKit
namespace Go.Proofs.Ytiogfgkfipekbaa
set_option linter.unusedVariables false
set_option linter.unusedSimpArgs false

/-- How many are less. -/
def lessC (S : List Int) (x : Int) : Nat := S.countP (fun t => decide (t < x))
theorem lessC_le (S : List Int) (x : Int) : lessC S x ≤ S.length := List.countP_le_length
theorem lessC_perm {S W : List Int} (h : S.Perm W) (x : Int) : lessC S x = lessC W x := h.countP_eq _
theorem lessC_at {S : List Int} (hs : S.Pairwise (· ≤ ·)) (x : Int) : (∀ j (h : j < S.length), j < lessC S x → S[j] < x) ∧ (∀ j (h : j < S.length), lessC S x ≤ j → x ≤ S[j]) := by
  induction S with
  | nil => exact ⟨fun j h => absurd h (Nat.not_lt_zero _), fun j h => absurd h (Nat.not_lt_zero _)⟩
  | cons t S ih =>
    have hs' := List.pairwise_cons.1 hs
    obtain ⟨h1, h2⟩ := ih hs'.2
    by_cases ht : t < x
    · have e : lessC (t :: S) x = lessC S x + 1 := by unfold lessC; rw [List.countP_cons]; simp [ht]
      rw [e]
      refine ⟨fun j h hj => ?_, fun j h hj => ?_⟩
      · cases j with
        | zero => exact ht
        | succ j => exact h1 j (by simpa using h) (by omega)
      · cases j with
        | zero => omega
        | succ j => exact h2 j (by simpa using h) (by omega)
    · have e : lessC (t :: S) x = 0 := by
        unfold lessC
        refine List.countP_eq_zero.2 (fun y hy => ?_)
        rcases List.mem_cons.1 hy with rfl | hy
        · simp; omega
        · have := hs'.1 y hy; simp; omega
      rw [e]
      refine ⟨fun j h hj => absurd hj (Nat.not_lt_zero _), fun j h _ => ?_⟩
      cases j with
      | zero => simp; omega
      | succ j =>
        have := hs'.1 (S[j]'(by simpa using h)) (List.getElem_mem _)
        simp only [List.getElem_cons_succ]; omega
/-- One taken out at the place where it is the first of its kind. -/
def cutS (S : List Int) (x : Int) : List Int := S.take (lessC S x) ++ S.drop (lessC S x + 1)
def joinS (S : List Int) (x : Int) : List Int := S.take (lessC S x) ++ x :: S.drop (lessC S x)
theorem lessC_mem {S : List Int} (hs : S.Pairwise (· ≤ ·)) {x : Int} (hx : x ∈ S) : ∃ h : lessC S x < S.length, S[lessC S x] = x := by
  obtain ⟨q, hq, he⟩ := List.getElem_of_mem hx
  obtain ⟨h1, h2⟩ := lessC_at hs x
  have hlt : lessC S x ≤ q := by
    refine Nat.le_of_not_lt (fun hh => ?_)
    have := h1 q hq hh; omega
  have hl : lessC S x < S.length := by omega
  refine ⟨hl, ?_⟩
  have a1 := h2 (lessC S x) hl (Nat.le_refl _)
  by_cases e : lessC S x = q
  · simp only [e]; exact he
  · have := List.pairwise_iff_getElem.1 hs (lessC S x) q hl hq (by omega)
    omega
theorem cutS_length {S : List Int} {x : Int} (h : lessC S x < S.length) : (cutS S x).length = S.length - 1 := by unfold cutS; rw [List.length_append, List.length_take, List.length_drop]; omega
theorem cutS_perm {S : List Int} (hs : S.Pairwise (· ≤ ·)) {x : Int} (hx : x ∈ S) : (x :: cutS S x).Perm S := by
  obtain ⟨hl, he⟩ := lessC_mem hs hx
  have e : S = S.take (lessC S x) ++ x :: S.drop (lessC S x + 1) := by
    conv => lhs; rw [← List.take_append_drop (lessC S x) S, List.drop_eq_getElem_cons hl, he]
  unfold cutS
  conv => rhs; rw [e]
  exact List.perm_middle.symm
theorem cutS_srt {S : List Int} (hs : S.Pairwise (· ≤ ·)) (x : Int) : (cutS S x).Pairwise (· ≤ ·) := by
  unfold cutS
  have h := hs
  rw [← List.take_append_drop (lessC S x) S] at h
  have h' := List.pairwise_append.1 h
  refine List.pairwise_append.2 ⟨h'.1, ?_, fun a ha b hb => h'.2.2 a ha b ?_⟩
  · rw [show lessC S x + 1 = lessC S x + 1 from rfl, ← List.drop_drop]
    exact h'.2.1.drop
  · rw [← List.drop_drop] at hb
    exact List.mem_of_mem_drop hb
theorem joinS_length (S : List Int) (x : Int) : (joinS S x).length = S.length + 1 := by unfold joinS; have := lessC_le S x; rw [List.length_append, List.length_take, List.length_cons, List.length_drop]; omega
theorem joinS_perm (S : List Int) (x : Int) : (joinS S x).Perm (x :: S) := by
  unfold joinS
  refine List.perm_middle.trans ?_
  rw [List.take_append_drop]
theorem joinS_srt {S : List Int} (hs : S.Pairwise (· ≤ ·)) (x : Int) : (joinS S x).Pairwise (· ≤ ·) := by
  unfold joinS
  obtain ⟨h1, h2⟩ := lessC_at hs x
  have h := hs
  rw [← List.take_append_drop (lessC S x) S] at h
  have h' := List.pairwise_append.1 h
  have hx : ∀ b ∈ S.drop (lessC S x), x ≤ b := fun b hb => by
    obtain ⟨q, hq, rfl⟩ := List.getElem_of_mem hb
    rw [List.length_drop] at hq
    rw [List.getElem_drop]
    exact h2 _ _ (by omega)
  refine List.pairwise_append.2 ⟨h'.1, List.pairwise_cons.2 ⟨hx, h'.2.1⟩, fun a ha b hb => ?_⟩
  rcases List.mem_cons.1 hb with rfl | hb
  · obtain ⟨q, hq, rfl⟩ := List.getElem_of_mem ha
    rw [List.length_take] at hq
    rw [List.getElem_take]
    exact Int.le_of_lt (h1 _ _ (by omega))
  · exact h'.2.2 a ha b hb
/-- What a window of ranks is behind one more. -/
def winP (W : List Int) (most : Nat) (x : Int) : List Int := (if W.length < most then W else W.drop 1) ++ [x]
theorem lessC_mono {W : List Int} {x y : Int} (h : x ≤ y) : lessC W x ≤ lessC W y := by
  unfold lessC
  refine List.countP_mono_left (fun a _ ha => ?_)
  simp only [decide_eq_true_eq] at ha ⊢
  omega
theorem lessC_least {W : List Int} {x : Int} (h : ∀ a ∈ W, x ≤ a) : lessC W x = 0 := List.countP_eq_zero.2 (fun a ha => by have := h a ha; simp; omega)
end Go.Proofs.Ytiogfgkfipekbaa
