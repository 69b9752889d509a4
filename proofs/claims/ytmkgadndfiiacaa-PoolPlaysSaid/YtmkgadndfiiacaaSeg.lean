/-
  Sums over stretches of two rows of numbers: from any place to any later one the first row's sum is at most a bound, and the second row's behind that place. Plain laws on lists. No condition.
-/
namespace Go.Proofs.Ytmkgadndfiiacaa
set_option linter.unusedVariables false
set_option linter.unusedSimpArgs false

/-- The sum of n numbers from place i on. -/
def seg (g : List Int) (i : Nat) : Nat → Int
  | 0 => 0
  | n + 1 => seg g i n + g.getD (i + n) 0
theorem seg_zero (g : List Int) (i : Nat) : seg g i 0 = 0 := rfl
theorem seg_succ (g : List Int) (i n : Nat) : seg g i (n + 1) = seg g i n + g.getD (i + n) 0 := rfl
theorem getD_left (g : List Int) (x : Int) {i : Nat} (h : i < g.length) : (g ++ [x]).getD i 0 = g.getD i 0 := by
  rw [List.getD_eq_getElem?_getD, List.getD_eq_getElem?_getD, List.getElem?_append_left h]
theorem getD_last (g : List Int) (x : Int) : (g ++ [x]).getD g.length 0 = x := by
  rw [List.getD_eq_getElem?_getD, List.getElem?_append_right (Nat.le_refl _)]; simp
theorem seg_left (g : List Int) (x : Int) (i : Nat) : ∀ n, i + n ≤ g.length → seg (g ++ [x]) i n = seg g i n := by
  intro n
  induction n with
  | zero => intro _; rfl
  | succ n ih => intro h; rw [seg_succ, seg_succ, ih (by omega), getD_left g x (by omega)]
theorem getD_all {P : Int → Prop} {g : List Int} (h : ∀ x ∈ g, P x) (h0 : P 0) (i : Nat) : P (g.getD i 0) := by
  rw [List.getD_eq_getElem?_getD]
  by_cases hi : i < g.length
  · rw [List.getElem?_eq_getElem hi]; exact h _ (List.getElem_mem _)
  · rw [List.getElem?_eq_none (by omega)]; exact h0
theorem seg_bounds {g : List Int} {M : Int} (h : ∀ x ∈ g, 0 ≤ x ∧ x ≤ M) (hM : 0 ≤ M) (i : Nat) : ∀ n : Nat, 0 ≤ seg g i n ∧ seg g i n ≤ n * M := by
  intro n
  induction n with
  | zero => exact ⟨Int.le_refl _, by show (0 : Int) ≤ (0 : Nat) * M; simp⟩
  | succ n ih =>
    have e := getD_all (P := fun x => 0 ≤ x ∧ x ≤ M) h ⟨Int.le_refl _, hM⟩ (i + n)
    rw [seg_succ]
    have : ((n + 1 : Nat) : Int) * M = n * M + M := by rw [Int.natCast_add, Int.add_mul]; simp
    omega
/-- Two rows, and what is left now. -/
structure CF (R B L : Int) (g d : List Int) (t : Int) : Prop where
  len : g.length = d.length
  part : ∀ i n, i + n < g.length → seg g i (n + 1) ≤ B + L + R * seg d (i + 1) n
  now : ∀ i n, i + n + 1 = g.length → seg g i (n + 1) + t ≤ B + R * seg d (i + 1) n
theorem CF.nil (R B L t : Int) : CF R B L [] [] t := ⟨rfl, fun i n h => absurd h (by simp), fun i n h => absurd h (by simp)⟩
theorem CF.snoc {R B L : Int} {g d : List Int} {t x y t2 : Int} (h : CF R B L g d t) (h1 : x + t2 ≤ t + R * y) (h2 : x + t2 ≤ B) (h3 : -L ≤ t2) : CF R B L (g ++ [x]) (d ++ [y]) t2 := by
  obtain ⟨hl, hp, hn⟩ := h
  have key : ∀ i n, i + n + 1 = (g ++ [x]).length → seg (g ++ [x]) i (n + 1) + t2 ≤ B + R * seg (d ++ [y]) (i + 1) n := by
    intro i n e
    rw [List.length_append, List.length_singleton] at e
    have e' : i + n = g.length := by omega
    rw [seg_succ, seg_left g x i n (by omega), e', getD_last]
    cases n with
    | zero => rw [seg_zero, seg_zero, Int.mul_zero]; omega
    | succ n =>
      have := hn i n (by omega)
      rw [seg_succ (d ++ [y]), seg_left d y (i + 1) n (by omega), show i + 1 + n = d.length by omega, getD_last, Int.mul_add]
      omega
  refine ⟨by simp [hl], fun i n e => ?_, key⟩
  rw [List.length_append, List.length_singleton] at e
  by_cases e2 : i + n + 1 = g.length + 1
  · have := key i n (by rw [List.length_append, List.length_singleton]; exact e2)
    omega
  · rw [seg_left g x i (n + 1) (by omega), seg_left d y (i + 1) n (by omega)]
    exact hp i n (by omega)
end Go.Proofs.Ytmkgadndfiiacaa
