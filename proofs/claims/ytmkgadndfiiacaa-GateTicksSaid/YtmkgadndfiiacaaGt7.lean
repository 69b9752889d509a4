/-
  Layer 22: for how long a class stays open, and when it is so for long enough, by the rounds of an iterator. Plain laws on numbers. No condition but that the plan may be.
-/
import Derived.Test.YtmkgadndfiiacaaGt5
import Derived.Test.YtmkgadndfiiacaaGt6
namespace Go.Proofs.Ytmkgadndfiiacaa
set_option linter.unusedVariables false
set_option linter.unusedSimpArgs false

section
variable (fs : List Slot22) (n k0 : Nat) (t : Int) (cl : Nat)
/-- How long the round's slot is; whether the class is open in it; how far the rounds before it reach. -/
def wid (j : Nat) : Int := (seq22 fs n k0 t j).s
def opj (j : Nat) : Bool := decide (hlv (seq22 fs n k0 t j).o cl % 2 = 1)
def pos22 : Nat → Int
  | 0 => 0
  | j + 1 => pos22 j + wid fs n k0 t j
/-- Where the next possible beginning lies, and for how many ticks the class was open since then. -/
def st22 : Nat → Int × Int
  | 0 => (0, 0)
  | j + 1 => if opj fs n k0 t cl j = true then ((st22 j).1, (st22 j).2 + wid fs n k0 t j) else ((st22 j).1 + (st22 j).2 + wid fs n k0 t j, 0)
def GoS (R : Int) (i : Nat) : Prop := opj fs n k0 t cl i = true ∧ pos22 fs n k0 t (i + 1) < R
def StaysIs (R : Int) (j : Nat) (v : Int) (b : Bool) : Prop :=
  (∀ i, i < j → GoS fs n k0 t cl R i) ∧ ((opj fs n k0 t cl j = false ∧ v = pos22 fs n k0 t j ∧ b = true) ∨ (opj fs n k0 t cl j = true ∧ R ≤ pos22 fs n k0 t (j + 1) ∧ v = 0 ∧ b = false))
def GoN (R E : Int) (i : Nat) : Prop := (opj fs n k0 t cl i = true → (st22 fs n k0 t cl i).2 + wid fs n k0 t i < E) ∧ (st22 fs n k0 t cl (i + 1)).1 < R
def NextIs (R E : Int) (j : Nat) (b : Bool) (g : Int) : Prop :=
  (∀ i, i < j → GoN fs n k0 t cl R E i) ∧ ((opj fs n k0 t cl j = true ∧ E ≤ (st22 fs n k0 t cl j).2 + wid fs n k0 t j ∧ b = true ∧ g = (st22 fs n k0 t cl j).1) ∨
    ((opj fs n k0 t cl j = true → (st22 fs n k0 t cl j).2 + wid fs n k0 t j < E) ∧ R ≤ (st22 fs n k0 t cl (j + 1)).1 ∧ b = false ∧ g = 0))
end
section
variable {fs : List Slot22} {n k0 : Nat} {t : Int} {cl : Nat}
theorem wid_pos (hok : PlanOk fs n) (hk : InSlot fs n t k0) (j : Nat) : 1 ≤ wid fs n k0 t j ∧ wid fs n k0 t j ≤ 4294967296 := by
  unfold wid seq22
  by_cases h : j = 0
  · rw [if_pos h]
    obtain ⟨h1, h2, h3⟩ := hk
    have e : spans fs (k0 + 1) = spans fs k0 + (slotN fs k0).s := rfl
    have g := (hok.2 k0 h1).2
    dsimp only
    omega
  · rw [if_neg h]
    exact hok.2 _ (Nat.mod_lt _ (by have := hok.1.1; omega))
theorem pos_ge (hok : PlanOk fs n) (hk : InSlot fs n t k0) : ∀ j : Nat, (j : Int) ≤ pos22 fs n k0 t j ∧ pos22 fs n k0 t j ≤ j * 4294967296
  | 0 => ⟨by simp [pos22], by simp [pos22]⟩
  | j + 1 => by
    obtain ⟨h1, h2⟩ := pos_ge hok hk j
    obtain ⟨g1, g2⟩ := wid_pos hok hk j
    simp only [pos22]
    omega
theorem st_sum (cl : Nat) (hok : PlanOk fs n) (hk : InSlot fs n t k0) (j : Nat) : (st22 fs n k0 t cl j).1 + (st22 fs n k0 t cl j).2 = pos22 fs n k0 t j ∧ 0 ≤ (st22 fs n k0 t cl j).1 ∧ 0 ≤ (st22 fs n k0 t cl j).2 := by
  induction j with
  | zero => exact ⟨by simp [pos22, st22], by simp [st22], by simp [st22]⟩
  | succ j ih =>
    obtain ⟨h1, h2, h3⟩ := ih
    obtain ⟨g1, g2⟩ := wid_pos hok hk j
    simp only [pos22, st22]
    split
    · dsimp only; omega
    · dsimp only; omega
theorem stays_ex (hok : PlanOk fs n) (hk : InSlot fs n t k0) (R : Int) : ∃ j v b, StaysIs fs n k0 t cl R j v b := by
  have key : ∀ m : Nat, (∃ j v b, StaysIs fs n k0 t cl R j v b) ∨ ∀ i, i < m → GoS fs n k0 t cl R i := by
    intro m
    induction m with
    | zero => exact Or.inr (fun i h => absurd h (Nat.not_lt_zero _))
    | succ m ih =>
      rcases ih with h | h
      · exact Or.inl h
      · by_cases g : GoS fs n k0 t cl R m
        · exact Or.inr (fun i hi => by
            by_cases e : i = m
            · rw [e]; exact g
            · exact h i (by omega))
        · cases ho : opj fs n k0 t cl m with
          | false => exact Or.inl ⟨m, _, _, h, Or.inl ⟨ho, rfl, rfl⟩⟩
          | true =>
            have : ¬ pos22 fs n k0 t (m + 1) < R := fun x => g ⟨ho, x⟩
            exact Or.inl ⟨m, 0, false, h, Or.inr ⟨ho, by omega, rfl, rfl⟩⟩
  rcases key (R.toNat + 1) with h | h
  · exact h
  · have h1 := (h R.toNat (by omega)).2
    have p := (pos_ge hok hk (R.toNat + 1)).1
    omega
theorem st_lt {R E : Int} (hR : 0 < R) (hE : 0 < E) (j : Nat) (h : ∀ i, i < j → GoN fs n k0 t cl R E i) : (st22 fs n k0 t cl j).1 < R ∧ (st22 fs n k0 t cl j).2 < E := by
  cases j with
  | zero => exact ⟨by simpa [st22] using hR, by simpa [st22] using hE⟩
  | succ j =>
    obtain ⟨h1, h2⟩ := h j (by omega)
    refine ⟨h2, ?_⟩
    simp only [st22]
    split
    · rename_i ho; exact h1 ho
    · exact hE
theorem next_ex (hok : PlanOk fs n) (hk : InSlot fs n t k0) (R E : Int) (hR : 0 < R) (hE : 0 < E) : ∃ j b g, NextIs fs n k0 t cl R E j b g := by
  have key : ∀ m : Nat, (∃ j b g, NextIs fs n k0 t cl R E j b g) ∨ ∀ i, i < m → GoN fs n k0 t cl R E i := by
    intro m
    induction m with
    | zero => exact Or.inr (fun i h => absurd h (Nat.not_lt_zero _))
    | succ m ih =>
      rcases ih with h | h
      · exact Or.inl h
      · by_cases g : GoN fs n k0 t cl R E m
        · exact Or.inr (fun i hi => by
            by_cases e : i = m
            · rw [e]; exact g
            · exact h i (by omega))
        · by_cases g1 : opj fs n k0 t cl m = true → (st22 fs n k0 t cl m).2 + wid fs n k0 t m < E
          · have : ¬ (st22 fs n k0 t cl (m + 1)).1 < R := fun x => g ⟨g1, x⟩
            exact Or.inl ⟨m, false, 0, h, Or.inr ⟨g1, by omega, rfl, rfl⟩⟩
          · have g2 : opj fs n k0 t cl m = true ∧ ¬ (st22 fs n k0 t cl m).2 + wid fs n k0 t m < E := by
              by_cases ho : opj fs n k0 t cl m = true
              · exact ⟨ho, fun x => g1 (fun _ => x)⟩
              · exact absurd (fun h => absurd h ho) g1
            exact Or.inl ⟨m, true, _, h, Or.inl ⟨g2.1, by have := g2.2; omega, rfl, rfl⟩⟩
  rcases key ((R + E).toNat + 1) with h | h
  · exact h
  · obtain ⟨h1, h2⟩ := st_lt hR hE _ h
    have p := (pos_ge hok hk ((R + E).toNat + 1)).1
    have q := (st_sum cl hok hk ((R + E).toNat + 1)).1
    omega
end
end Go.Proofs.Ytmkgadndfiiacaa
